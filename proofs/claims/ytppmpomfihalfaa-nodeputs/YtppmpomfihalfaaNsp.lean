/- Put together out of Nsh, Nsl, Nsm. -/
import Derived.Test.YtppmpomfihalfaaNsg
import Derived.Test.YtppmpomfihalfaaNsk
namespace Go.Proofs.Ytppmpomfihalfaa
section
open Go.RowKit
theorem Nv.v_let (m : Nd) (x : Nv) (l : Bool) (c k g : Nat) (hl : l = m.leaf) (hc : c = m.cells.length) (hk : k = m.keys.length) (hg : g = m.kids.length) : x.v m = .agg #[.bool l, .slice x.ca c x.cc, .slice x.ka k x.kc, .slice x.ga g x.gc] := by subst hl hc hk hg; rfl
set_option maxRecDepth 100000 in
set_option maxHeartbeats 16000000 in
theorem lAgain (n : Nd) (a : Nv) (u : World) (h : NdAt u n a) (hn : a.Nil) (hf : n.Few) (F1 F2 : FuncId) (c1 c2 : Array Value)
    (he1 : ∀ args (w : World), (callFunc F1 args).run Try.prog w = .ok (.enter F1 args) w) (he2 : ∀ args (w : World), (callFunc F2 args).run Try.prog w = .ok (.enter F2 args) w)
    (rN : Nd → Nd) (eE : Nd → Int) (hfine : ∀ (v : World) (m : Nd) (x : Nv), NdAt v m x → m.Few → (rN m).Fine)
    (hask : ∀ (v : World) (m : Nd) (x : Nv), Below u.heap.size u v → NdAt v m x → m.Few → Calls Try.prog F1 (#[x.v m] ++ c1) v fun e w' => ∃ r, e = .returned r ∧ ∃ y : Nv, r = .tuple #[y.v (rN m), .int .i64 (eE m)] ∧ Ow w' v.heap.size (rN m).cells (rN m).keys (rN m).kids y ∧ Below v.heap.size v w')
    (hwant : ∀ (v : World) (m : Nd) (x : Nv), Below u.heap.size u v → NdAt v m x → m.Few → Calls Try.prog F2 (#[x.v m] ++ c2) v fun e w' => ∃ r, e = .returned r ∧ ∃ y : Nv, r = .tuple #[y.v (rN m), .int .i64 (eE m)] ∧ Ow w' v.heap.size (rN m).cells (rN m).keys (rN m).kids y ∧ Below v.heap.size v w') :
    Calls Try.prog 33 #[a.v n, .func (.func F1) #[] c1, .func (.func F2) #[] c2] u fun e u' => e = .returned (.bool true) ∧ Below u.heap.size u u' := by
  have H1 := hide (fun (v : World) (hv : Below u.heap.size u v) => lLent n a v (h.below hv) hn hf)
  have HA := hide h
  have HFI := hide hfine
  have HASK := hide hask
  have HWANT := hide hwant
  have HE1 := hide he1
  have HE2 := hide he2
  have HKE0 := hide (fun (v : World) (b : Nv) (B : Nat) (hv : NdAt v n a) (hl : Le v B n b) => lKeptF n a b B v hv hn hf hl)
  have HOV0 := hide (fun (v : World) (b : Nv) (B : Nat) (hl : Le v B n b) => lOver n b B v hl hf)
  have HF := hide hf
  have HNIL := hide hn
  obtain ⟨N, hN⟩ : ∃ N, N = u.heap.size := ⟨_, rfl⟩
  have HN := hide hN
  rw [← hN] at H1 HASK HWANT ⊢
  clear hN hn he1 he2 hask hwant hfine
  obtain ⟨ca, cc, ka, kc, ga, gc⟩ := a
  obtain ⟨nc, hnc⟩ : ∃ c, c = n.cells.length := ⟨_, rfl⟩
  obtain ⟨nk, hnk⟩ : ∃ c, c = n.keys.length := ⟨_, rfl⟩
  obtain ⟨ng, hng⟩ : ∃ c, c = n.kids.length := ⟨_, rfl⟩
  obtain ⟨nl, hnl⟩ : ∃ c, c = n.leaf := ⟨_, rfl⟩
  have HVN : Hid (∀ x : Nv, x.v n = .agg #[.bool nl, .slice x.ca nc x.cc, .slice x.ka nk x.kc, .slice x.ga ng x.gc]) := fun x => Nv.v_let n x nl nc nk ng hnl hnc hnk hng
  have HRF := hide (unhide HFI u n _ h hf)
  obtain ⟨R, hR⟩ : ∃ R, R = rN n := ⟨_, rfl⟩
  obtain ⟨E, hE⟩ : ∃ E, E = eE n := ⟨_, rfl⟩
  obtain ⟨rc, hrc⟩ : ∃ c, c = R.cells.length := ⟨_, rfl⟩
  obtain ⟨rk, hrk⟩ : ∃ c, c = R.keys.length := ⟨_, rfl⟩
  obtain ⟨rg, hrg⟩ : ∃ c, c = R.kids.length := ⟨_, rfl⟩
  obtain ⟨rl, hrl⟩ : ∃ c, c = R.leaf := ⟨_, rfl⟩
  have HVR : Hid (∀ x : Nv, x.v R = .agg #[.bool rl, .slice x.ca rc x.cc, .slice x.ka rk x.kc, .slice x.ga rg x.gc]) := fun x => Nv.v_let R x rl rc rk rg hrl hrc hrk hrg
  rw [← hR] at HRF
  have HWN : Hid (∀ v : World, Below N u v → NdAt v n ⟨ca, cc, ka, kc, ga, gc⟩ → Calls Try.prog F2 (#[.agg #[.bool nl, .slice ca nc cc, .slice ka nk kc, .slice ga ng gc]] ++ c2) v fun e w' => ∃ r, e = .returned r ∧ ∃ y : Nv, r = .tuple #[.agg #[.bool rl, .slice y.ca rc y.cc, .slice y.ka rk y.kc, .slice y.ga rg y.gc], .int .i64 E] ∧ Ow w' v.heap.size R.cells R.keys R.kids y ∧ Below v.heap.size v w') := fun v hv hx => by
    have := unhide HWANT v n _ hv hx (unhide HF)
    rw [unhide HVN, ← hR, ← hE] at this
    refine this.mono ?_
    rintro e w' ⟨r, rfl, y, rfl, h1, h2⟩
    exact ⟨_, rfl, y, by rw [unhide HVR], h1, h2⟩
  have HAN : Hid (∀ (v : World) (x : Nv), Below N u v → NdAt v n x → Calls Try.prog F1 (#[.agg #[.bool nl, .slice x.ca nc x.cc, .slice x.ka nk x.kc, .slice x.ga ng x.gc]] ++ c1) v fun e w' => ∃ r, e = .returned r ∧ ∃ y : Nv, r = .tuple #[.agg #[.bool rl, .slice y.ca rc y.cc, .slice y.ka rk y.kc, .slice y.ga rg y.gc], .int .i64 E] ∧ Ow w' v.heap.size R.cells R.keys R.kids y ∧ Below v.heap.size v w') := fun v x hv hx => by
    have := unhide HASK v n x hv hx (unhide HF)
    rw [unhide HVN, ← hR, ← hE] at this
    refine this.mono ?_
    rintro e w' ⟨r, rfl, y, rfl, h1, h2⟩
    exact ⟨_, rfl, y, by rw [unhide HVR], h1, h2⟩
  rw [unhide HVN] at H1
  rw [unhide HVN]
  have HLN := hide (And.intro hnl (And.intro hnc (And.intro hnk hng)))
  clear h hf hR hE hrc hrk hrg hrl hnc hnk hng hnl
  go_enter Try.func33, Try.ntmps33
  go_wp2_with (first
    | ((with_reducible refine wpList_box_node (by rfl) (.tmp 0) (by rfl) (some 3) (by rfl) N (unhide HN) nl ca nc cc ka nk kc ga ng gc (by with_unfolding_all rfl) ?_); intro W0 HX0 HB0 HS0; simp only [Act.put, List.setIfInBounds_toArray, List.set_cons_zero, List.set_cons_succ]; obtain ⟨y0, y1, y2, y3⟩ := box4 (unhide HX0))
    | fail)
  have HK0 : Hid (Kept u W0 N [(N, #[.bool nl, .slice ca nc cc, .slice ka nk kc, .slice ga ng gc])] []) := ⟨unhide HB0, by rw [unhide HS0]; exact Nat.le_succ _, fun p hp => by rcases List.mem_singleton.1 hp with rfl; exact unhide HX0, fun p hp => by cases hp⟩
  refine (unhide H1 W0 (unhide HB0)).mono ?_
  rintro e W1 ⟨b, rfl, hle, hb1⟩
  have HLE : Hid (Le W1 N n b) := ⟨hle.at_, own_down hle.own.c (by rw [unhide HS0]; exact Nat.le_succ _), own_down hle.own.k (by rw [unhide HS0]; exact Nat.le_succ _), own_down hle.own.g (by rw [unhide HS0]; exact Nat.le_succ _)⟩
  have HK1 := hide ((unhide HK0).below hb1)
  rw [unhide HVN b]
  clear hle hb1 y0 y1 y2 y3 HX0 HB0 HS0 HK0 H1
  obtain ⟨M, hM⟩ : ∃ M, M = W1.heap.size := ⟨_, rfl⟩
  have HM := hide hM
  clear hM
  have HLNE := hide (fun (m : Nd) (hm : m.leaf = n.leaf) (hl : m.cells.length = n.cells.length ∧ m.keys.length = n.keys.length ∧ m.kids.length = n.kids.length) => (show m.Few ∧ ∀ x : Nv, x.v m = .agg #[.bool nl, .slice x.ca nc x.cc, .slice x.ka nk x.kc, .slice x.ga ng x.gc] from ⟨⟨by rw [hl.1]; exact (unhide HF).1, by rw [hl.2.1]; exact (unhide HF).2.1, by rw [hl.2.2]; exact (unhide HF).2.2⟩, fun x => Nv.v_let m x nl nc nk ng ((unhide HLN).1.trans hm.symm) ((unhide HLN).2.1.trans hl.1.symm) ((unhide HLN).2.2.1.trans hl.2.1.symm) ((unhide HLN).2.2.2.trans hl.2.2.symm)⟩))
  go_wp2_with (first
    | ((with_reducible refine wpList_alloc_node (by rfl) (by rfl) (some 7) (by rfl) M (unhide HM) ?_); intro W2a HXa HBa HSa; simp only [Act.put, List.setIfInBounds_toArray, List.set_cons_zero, List.set_cons_succ])
    | ((with_reducible refine wpList_store_node (by rfl) (.tmp 7) (.tmp 20) (by rfl) M nl b.ca nc b.cc b.ka nk b.kc b.ga ng b.gc (by with_unfolding_all rfl) (by with_unfolding_all rfl) (unhide HXa) ?_); intro W2 HXb HEb; simp only [Act.put]; have HBb : Hid (Below W1.heap.size W1 W2) := (by rw [unhide HEb, ← unhide HM]; exact belowRow (unhide HBa) (Nat.le_refl _) _); have HK2 : Hid (Kept u W2 N [(M, #[.bool nl, .slice b.ca nc b.cc, .slice b.ka nk b.kc, .slice b.ga ng b.gc]), (N, #[.bool nl, .slice ca nc cc, .slice ka nk kc, .slice ga ng gc])] []) := ((unhide HK1).below (unhide HBb)).box (unhide HXb); have HLE2 := hide ((unhide HLE).below (unhide HBb)); have HFB : Hid (∀ g, b.blk g → N ≤ g ∧ g < W2.heap.size) := (fun g hg => ⟨((unhide HLE2).blk g hg).1, ((unhide HLE2).blk g hg).2.1⟩); obtain ⟨y0, y1, y2, y3⟩ := box4 ((unhide HK2).at_ (M := N) (b := #[.bool nl, .slice ca nc cc, .slice ka nk kc, .slice ga ng gc]) (by simp)); clear HXb HBb; clear HXa HBa HSa HEb)
    | (refine wpList_callv (by rfl) (.tmp 22) (.tmp 23) _ (by rfl) F2 c2 (by with_unfolding_all rfl) (.agg #[.bool nl, .slice ca nc cc, .slice ka nk kc, .slice ga ng gc]) (by with_unfolding_all rfl) (unhide HE2) (some 24) (by rfl) _ (unhide HWN W2 (unhide HK2).bel ((unhide HA).below (by rw [← unhide HN]; exact (unhide HK2).bel))) ?_; rintro _ W3 ⟨xa, rfl, hoa, hb3⟩; simp only [Act.put, List.setIfInBounds_toArray, List.set_cons_zero, List.set_cons_succ]; have HOA := hide hoa; have HB3 := hide hb3; have HK3 := hide ((unhide HK2).below hb3); have HLE3 := hide ((unhide HLE2).below hb3); clear hoa hb3 y0 y1 y2 y3; obtain ⟨M2, hM2⟩ : ∃ M2, M2 = W3.heap.size := ⟨_, rfl⟩; have HM2 := hide hM2; clear hM2)
    | ((with_reducible refine wpList_alloc_node (by rfl) (by rfl) (some 8) (by rfl) M2 (unhide HM2) ?_); intro W4a HXa HBa HSa; simp only [Act.put, List.setIfInBounds_toArray, List.set_cons_zero, List.set_cons_succ])
    | ((with_reducible refine wpList_store_node (by rfl) (.tmp 8) (.tmp 25) (by rfl) M2 rl xa.ca rc xa.cc xa.ka rk xa.kc xa.ga rg xa.gc (by with_unfolding_all rfl) (by with_unfolding_all rfl) (unhide HXa) ?_); intro W4 HXb HEb; simp only [Act.put]; have HBb : Hid (Below W3.heap.size W3 W4) := (by rw [unhide HEb, ← unhide HM2]; exact belowRow (unhide HBa) (Nat.le_refl _) _); have HK4 : Hid (Kept u W4 N [(M2, #[.bool rl, .slice xa.ca rc xa.cc, .slice xa.ka rk xa.kc, .slice xa.ga rg xa.gc]), (M, #[.bool nl, .slice b.ca nc b.cc, .slice b.ka nk b.kc, .slice b.ga ng b.gc]), (N, #[.bool nl, .slice ca nc cc, .slice ka nk kc, .slice ga ng gc])] [(R, xa)]) := (((unhide HK3).below (unhide HBb)).box (unhide HXb)).node (((unhide HOA).below (unhide HBb)).at' (unhide HRF)); have HLE4 := hide ((unhide HLE3).below (unhide HBb)); have HS12 : Hid (W2.heap.size ≤ W4.heap.size) := Nat.le_trans (unhide HB3).size (unhide HBb).size; have HFA : Hid (∀ g, xa.blk g → W2.heap.size ≤ g ∧ g < W4.heap.size) := (fun g hg => ⟨((unhide HOA).blk g hg).1.1, Nat.lt_of_lt_of_le ((unhide HOA).blk g hg).1.2 (unhide HBb).size⟩); obtain ⟨y0, y1, y2, y3⟩ := box4 ((unhide HK4).at_ (M := M) (b := #[.bool nl, .slice b.ca nc b.cc, .slice b.ka nk b.kc, .slice b.ga ng b.gc]) (by simp)); clear HXb HBb; clear HXa HBa HSa HEb)
    | (refine wpList_callv (by rfl) (.tmp 28) (.tmp 29) _ (by rfl) F1 c1 (by with_unfolding_all rfl) (.agg #[.bool nl, .slice b.ca nc b.cc, .slice b.ka nk b.kc, .slice b.ga ng b.gc]) (by with_unfolding_all rfl) (unhide HE1) (some 30) (by rfl) _ (unhide HAN W4 b (unhide HK4).bel (unhide HLE4).at_) ?_; rintro _ W5 ⟨xb, rfl, hob, hb5⟩; simp only [Act.put, List.setIfInBounds_toArray, List.set_cons_zero, List.set_cons_succ]; have HOB := hide hob; have HB5 := hide hb5; have HK5 := hide ((unhide HK4).below hb5); have HLE5 := hide ((unhide HLE4).below hb5); clear hob hb5 y0 y1 y2 y3; obtain ⟨M3, hM3⟩ : ∃ M3, M3 = W5.heap.size := ⟨_, rfl⟩; have HM3 := hide hM3; clear hM3)
    | ((with_reducible refine wpList_alloc_node (by rfl) (by rfl) (some 10) (by rfl) M3 (unhide HM3) ?_); intro W6a HXa HBa HSa; simp only [Act.put, List.setIfInBounds_toArray, List.set_cons_zero, List.set_cons_succ])
    | ((with_reducible refine wpList_store_node (by rfl) (.tmp 10) (.tmp 31) (by rfl) M3 rl xb.ca rc xb.cc xb.ka rk xb.kc xb.ga rg xb.gc (by with_unfolding_all rfl) (by with_unfolding_all rfl) (unhide HXa) ?_); intro W6 HXb HEb; simp only [Act.put]; have HBb : Hid (Below W5.heap.size W5 W6) := (by rw [unhide HEb, ← unhide HM3]; exact belowRow (unhide HBa) (Nat.le_refl _) _); have HK6 : Hid (Kept u W6 N [(M3, #[.bool rl, .slice xb.ca rc xb.cc, .slice xb.ka rk xb.kc, .slice xb.ga rg xb.gc]), (M2, #[.bool rl, .slice xa.ca rc xa.cc, .slice xa.ka rk xa.kc, .slice xa.ga rg xa.gc]), (M, #[.bool nl, .slice b.ca nc b.cc, .slice b.ka nk b.kc, .slice b.ga ng b.gc]), (N, #[.bool nl, .slice ca nc cc, .slice ka nk kc, .slice ga ng gc])] [(R, xa)]) := ((unhide HK5).below (unhide HBb)).box (unhide HXb); have HLE6 := hide ((unhide HLE5).below (unhide HBb)); have HOB6 := hide ((unhide HOB).below (unhide HBb)); obtain ⟨y0, y1, y2, y3⟩ := box4 ((unhide HK6).at_ (M := M3) (b := #[.bool rl, .slice xb.ca rc xb.cc, .slice xb.ka rk xb.kc, .slice xb.ga rg xb.gc]) (by simp)); obtain ⟨z0, z1, z2, z3⟩ := box4 ((unhide HK6).at_ (M := M2) (b := #[.bool rl, .slice xa.ca rc xa.cc, .slice xa.ka rk xa.kc, .slice xa.ga rg xa.gc]) (by simp)); clear HXb HBb; clear HXa HBa HSa HEb)
    | fail)
  have HS6 := hide (rSame R xb xa W6 ((unhide HOB6).at' (unhide HRF)) ((unhide HK6).nd_ (m := R) (x := xa) (by simp)))
  rw [unhide HVR, unhide HVR] at HS6
  refine (unhide HS6).mono ?_
  rintro e W7 ⟨rfl, hb7⟩
  have HK7 := hide ((unhide HK6).below hb7)
  have HLE7 := hide ((unhide HLE6).below hb7)
  have HOB7 := hide ((unhide HOB6).below hb7)
  clear hb7 HS6 y0 y1 y2 y3 z0 z1 z2 z3
  obtain ⟨y0, y1, y2, y3⟩ := box4 ((unhide HK7).at_ (M := M) (b := #[.bool nl, .slice b.ca nc b.cc, .slice b.ka nk b.kc, .slice b.ga ng b.gc]) (by simp))
  obtain ⟨z0, z1, z2, z3⟩ := box4 ((unhide HK7).at_ (M := N) (b := #[.bool nl, .slice ca nc cc, .slice ka nk kc, .slice ga ng gc]) (by simp))
  have HS7 := hide (unhide HKE0 W7 b N ((unhide HA).below (by rw [← unhide HN]; exact (unhide HK7).bel)) (unhide HLE7))
  rw [unhide HVN, unhide HVN] at HS7
  go_wp2_with fail
  refine (unhide HS7).mono ?_
  rintro e W8 ⟨_, rfl, rfl, hb8⟩
  have HK8 := hide ((unhide HK7).below hb8)
  have HLE8 := hide ((unhide HLE7).below hb8)
  have HOB8 := hide ((unhide HOB7).below hb8)
  clear hb8 HS7 y0 y1 y2 y3 z0 z1 z2 z3
  obtain ⟨y0, y1, y2, y3⟩ := box4 ((unhide HK8).at_ (M := M) (b := #[.bool nl, .slice b.ca nc b.cc, .slice b.ka nk b.kc, .slice b.ga ng b.gc]) (by simp))
  have HS8 := hide (unhide HOV0 W8 b N (unhide HLE8))
  rw [unhide HVN] at HS8
  go_wp2_with fail
  refine (unhide HS8).mono ?_
  rintro e W9 ⟨rfl, m, hml, hmn, hma, hup⟩
  have HMF := hide (unhide HLNE m hml hmn)
  have HDIS : Hid (∀ g, b.blk g → N ≤ g ∧ ∀ c fr, W8.heap[g]? ≠ some (.cells c 26 fr)) := fun g hg => ⟨((unhide HLE8).blk g hg).1, ((unhide HLE8).blk g hg).2.2⟩
  have HK9 := hide ((unhide HK8).upb hup (unhide HDIS) (fun p hp g hg hb => by
    rcases List.mem_singleton.1 hp with rfl
    have h1 := (unhide HFA g hg).1
    have h2 := (unhide HFB g hb)
    omega))
  have HOB9 := hide ((unhide HOB8).upb hup (fun g hg hb => by
    have h1 := ((unhide HOB8).blk g hg).1.1
    have h2 := (unhide HFB g hb)
    have h3 := unhide HS12
    omega))
  have HK9 := hide ((unhide HK9).node hma)
  have HNB := hide (unhide HLE8).nil
  clear hml hmn hma hup HS8 HLE8 HDIS HK8 HOB8 y0 y1 y2 y3
  obtain ⟨y0, y1, y2, y3⟩ := box4 ((unhide HK9).at_ (M := M3) (b := #[.bool rl, .slice xb.ca rc xb.cc, .slice xb.ka rk xb.kc, .slice xb.ga rg xb.gc]) (by simp))
  obtain ⟨z0, z1, z2, z3⟩ := box4 ((unhide HK9).at_ (M := M2) (b := #[.bool rl, .slice xa.ca rc xa.cc, .slice xa.ka rk xa.kc, .slice xa.ga rg xa.gc]) (by simp))
  have HS9 := hide (rSame R xb xa W9 ((unhide HOB9).at' (unhide HRF)) ((unhide HK9).nd_ (m := R) (x := xa) (by simp)))
  rw [unhide HVR, unhide HVR] at HS9
  go_wp2_with fail
  refine (unhide HS9).mono ?_
  rintro e V1 ⟨rfl, hb1⟩
  have HK10 := hide ((unhide HK9).below hb1)
  have HOB10 := hide ((unhide HOB9).below hb1)
  clear hb1 HS9 HK9 HOB9 y0 y1 y2 y3 z0 z1 z2 z3
  obtain ⟨y0, y1, y2, y3⟩ := box4 ((unhide HK10).at_ (M := M) (b := #[.bool nl, .slice b.ca nc b.cc, .slice b.ka nk b.kc, .slice b.ga ng b.gc]) (by simp))
  have HS10 := hide (lTwinO m b V1 ((unhide HK10).nd_ (m := m) (x := b) (by simp)) (unhide HNB) (by have h1 := (unhide HMF).1.1; have h2 := (unhide HMF).1.2.1; have h3 := (unhide HMF).1.2.2; omega))
  rw [(unhide HMF).2 b] at HS10
  go_wp2_with fail
  refine (unhide HS10).mono ?_
  rintro e V2 ⟨xc, rfl, hxc, hoc, hb2⟩
  have HK11 := hide (((unhide HK10).below hb2).node hxc)
  have HOB11 := hide ((unhide HOB10).below hb2)
  have HFC : Hid (∀ g, xc.blk g → V1.heap.size ≤ g) := fun g hg => (hoc.blk g hg).1.1
  have HBV1 : Hid (∀ g, xb.blk g → g < V1.heap.size) := fun g hg => ((unhide HOB10).blk g hg).1.2
  rw [(unhide HMF).2 xc]
  clear hxc hoc hb2 HS10 HK10 HOB10 y0 y1 y2 y3
  obtain ⟨M4, hM4⟩ : ∃ M4, M4 = V2.heap.size := ⟨_, rfl⟩
  have HM4 := hide hM4
  clear hM4
  go_wp2_with (first
    | ((with_reducible refine wpList_alloc_node (by rfl) (by rfl) (some 12) (by rfl) M4 (unhide HM4) ?_); intro V3a HXa HBa HSa; simp only [Act.put, List.setIfInBounds_toArray, List.set_cons_zero, List.set_cons_succ])
    | ((with_reducible refine wpList_store_node (by rfl) (.tmp 12) (.tmp 55) (by rfl) M4 nl xc.ca nc xc.cc xc.ka nk xc.kc xc.ga ng xc.gc (by with_unfolding_all rfl) (by with_unfolding_all rfl) (unhide HXa) ?_); intro V3 HXb HEb; simp only [Act.put]; have HBb : Hid (Below V2.heap.size V2 V3) := (by rw [unhide HEb, ← unhide HM4]; exact belowRow (unhide HBa) (Nat.le_refl _) _); have HK12 : Hid (Kept u V3 N [(M4, #[.bool nl, .slice xc.ca nc xc.cc, .slice xc.ka nk xc.kc, .slice xc.ga ng xc.gc]), (M3, #[.bool rl, .slice xb.ca rc xb.cc, .slice xb.ka rk xb.kc, .slice xb.ga rg xb.gc]), (M2, #[.bool rl, .slice xa.ca rc xa.cc, .slice xa.ka rk xa.kc, .slice xa.ga rg xa.gc]), (M, #[.bool nl, .slice b.ca nc b.cc, .slice b.ka nk b.kc, .slice b.ga ng b.gc]), (N, #[.bool nl, .slice ca nc cc, .slice ka nk kc, .slice ga ng gc])] [(m, xc), (m, b), (R, xa)]) := ((unhide HK11).below (unhide HBb)).box (unhide HXb); have HOB12 := hide ((unhide HOB11).below (unhide HBb)); obtain ⟨y0, y1, y2, y3⟩ := box4 ((unhide HK12).at_ (M := M3) (b := #[.bool rl, .slice xb.ca rc xb.cc, .slice xb.ka rk xb.kc, .slice xb.ga rg xb.gc]) (by simp)); clear HXb HBb; clear HXa HBa HSa HEb)
    | fail)
  -- spoil(b)
  have HS13 := hide (lSpoil R xb _ V3 (unhide HOB12) (unhide HRF).1 (unhide HRF).2.2 (unhide HRF).2.1)
  rw [unhide HVR] at HS13
  refine (unhide HS13).mono ?_
  rintro e V4 ⟨rfl, hup⟩
  have HK13 := hide ((unhide HK12).upb hup (fun g hg => ⟨Nat.le_trans (Nat.le_trans (unhide HK2).hN (unhide HS12)) ((unhide HOB12).blk g hg).1.1, ((unhide HOB12).blk g hg).2⟩) (fun p hp g hg hb => by
    have h1 := ((unhide HOB12).blk g hb).1.1
    have h2 := unhide HBV1 g hb
    have h4 := unhide HS12
    simp only [List.mem_cons, List.not_mem_nil, or_false] at hp
    rcases hp with rfl | rfl | rfl
    · have h3 := unhide HFC g hg
      omega
    · have h3 := (unhide HFB g hg).2
      omega
    · have h3 := (unhide HFA g hg).2
      omega))
  clear hup HS13 HOB12 HK12 y0 y1 y2 y3
  obtain ⟨y0, y1, y2, y3⟩ := box4 ((unhide HK13).at_ (M := M) (b := #[.bool nl, .slice b.ca nc b.cc, .slice b.ka nk b.kc, .slice b.ga ng b.gc]) (by simp))
  obtain ⟨z0, z1, z2, z3⟩ := box4 ((unhide HK13).at_ (M := M4) (b := #[.bool nl, .slice xc.ca nc xc.cc, .slice xc.ka nk xc.kc, .slice xc.ga ng xc.gc]) (by simp))
  have HS14 := hide (rSame m b xc V4 ((unhide HK13).nd_ (m := m) (x := b) (by simp)) ((unhide HK13).nd_ (m := m) (x := xc) (by simp)))
  rw [(unhide HMF).2 b, (unhide HMF).2 xc] at HS14
  go_wp2_with fail
  refine (unhide HS14).mono ?_
  rintro e V5 ⟨rfl, hb5⟩
  have HK14 := hide ((unhide HK13).below hb5)
  clear hb5 HS14 HK13 y0 y1 y2 y3 z0 z1 z2 z3
  -- want(changed), ask(in)
  have HRF2 := hide (unhide HFI V5 m xc ((unhide HK14).nd_ (m := m) (x := xc) (by simp)) (unhide HMF).1)
  obtain ⟨R2, hR2⟩ : ∃ R, R = rN m := ⟨_, rfl⟩
  obtain ⟨E2, hE2⟩ : ∃ E, E = eE m := ⟨_, rfl⟩
  obtain ⟨sc, hsc⟩ : ∃ c, c = R2.cells.length := ⟨_, rfl⟩
  obtain ⟨sk, hsk⟩ : ∃ c, c = R2.keys.length := ⟨_, rfl⟩
  obtain ⟨sg, hsg⟩ : ∃ c, c = R2.kids.length := ⟨_, rfl⟩
  obtain ⟨sl, hsl⟩ : ∃ c, c = R2.leaf := ⟨_, rfl⟩
  have HVS : Hid (∀ x : Nv, x.v R2 = .agg #[.bool sl, .slice x.ca sc x.cc, .slice x.ka sk x.kc, .slice x.ga sg x.gc]) := fun x => Nv.v_let R2 x sl sc sk sg hsl hsc hsk hsg
  rw [← hR2] at HRF2
  have HWM : Hid (∀ v : World, Below N u v → NdAt v m xc → Calls Try.prog F2 (#[.agg #[.bool nl, .slice xc.ca nc xc.cc, .slice xc.ka nk xc.kc, .slice xc.ga ng xc.gc]] ++ c2) v fun e w' => ∃ r, e = .returned r ∧ ∃ y : Nv, r = .tuple #[.agg #[.bool sl, .slice y.ca sc y.cc, .slice y.ka sk y.kc, .slice y.ga sg y.gc], .int .i64 E2] ∧ Ow w' v.heap.size R2.cells R2.keys R2.kids y ∧ Below v.heap.size v w') := fun v hv hx => by
    have := unhide HWANT v m _ hv hx (unhide HMF).1
    rw [(unhide HMF).2, ← hR2, ← hE2] at this
    refine this.mono ?_
    rintro e w' ⟨r, rfl, y, rfl, h1, h2⟩
    exact ⟨_, rfl, y, by rw [unhide HVS], h1, h2⟩
  have HAM : Hid (∀ v : World, Below N u v → NdAt v m b → Calls Try.prog F1 (#[.agg #[.bool nl, .slice b.ca nc b.cc, .slice b.ka nk b.kc, .slice b.ga ng b.gc]] ++ c1) v fun e w' => ∃ r, e = .returned r ∧ ∃ y : Nv, r = .tuple #[.agg #[.bool sl, .slice y.ca sc y.cc, .slice y.ka sk y.kc, .slice y.ga sg y.gc], .int .i64 E2] ∧ Ow w' v.heap.size R2.cells R2.keys R2.kids y ∧ Below v.heap.size v w') := fun v hv hx => by
    have := unhide HASK v m b hv hx (unhide HMF).1
    rw [(unhide HMF).2, ← hR2, ← hE2] at this
    refine this.mono ?_
    rintro e w' ⟨r, rfl, y, rfl, h1, h2⟩
    exact ⟨_, rfl, y, by rw [unhide HVS], h1, h2⟩
  clear hR2 hE2 hsc hsk hsg hsl
  obtain ⟨y0, y1, y2, y3⟩ := box4 ((unhide HK14).at_ (M := M4) (b := #[.bool nl, .slice xc.ca nc xc.cc, .slice xc.ka nk xc.kc, .slice xc.ga ng xc.gc]) (by simp))
  go_wp2_with (first
    | (refine wpList_callv (by rfl) (.tmp 63) (.tmp 64) _ (by rfl) F2 c2 (by with_unfolding_all rfl) (.agg #[.bool nl, .slice xc.ca nc xc.cc, .slice xc.ka nk xc.kc, .slice xc.ga ng xc.gc]) (by with_unfolding_all rfl) (unhide HE2) (some 65) (by rfl) _ (unhide HWM V5 (unhide HK14).bel ((unhide HK14).nd_ (m := m) (x := xc) (by simp))) ?_; rintro _ V6 ⟨xo, rfl, hoo, hb6⟩; simp only [Act.put, List.setIfInBounds_toArray, List.set_cons_zero, List.set_cons_succ]; have HK15 := hide (((unhide HK14).below hb6).node (hoo.at' (unhide HRF2))); clear hoo hb6 y0 y1 y2 y3; obtain ⟨M5, hM5⟩ : ∃ M5, M5 = V6.heap.size := ⟨_, rfl⟩; have HM5 := hide hM5; clear hM5)
    | ((with_reducible refine wpList_alloc_node (by rfl) (by rfl) (some 13) (by rfl) M5 (unhide HM5) ?_); intro V7a HXa HBa HSa; simp only [Act.put, List.setIfInBounds_toArray, List.set_cons_zero, List.set_cons_succ])
    | ((with_reducible refine wpList_store_node (by rfl) (.tmp 13) (.tmp 66) (by rfl) M5 sl xo.ca sc xo.cc xo.ka sk xo.kc xo.ga sg xo.gc (by with_unfolding_all rfl) (by with_unfolding_all rfl) (unhide HXa) ?_); intro V7 HXb HEb; simp only [Act.put]; have HBb : Hid (Below V6.heap.size V6 V7) := (by rw [unhide HEb, ← unhide HM5]; exact belowRow (unhide HBa) (Nat.le_refl _) _); have HK16 : Hid (Kept u V7 N [(M5, #[.bool sl, .slice xo.ca sc xo.cc, .slice xo.ka sk xo.kc, .slice xo.ga sg xo.gc]), (M4, #[.bool nl, .slice xc.ca nc xc.cc, .slice xc.ka nk xc.kc, .slice xc.ga ng xc.gc]), (M3, #[.bool rl, .slice xb.ca rc xb.cc, .slice xb.ka rk xb.kc, .slice xb.ga rg xb.gc]), (M2, #[.bool rl, .slice xa.ca rc xa.cc, .slice xa.ka rk xa.kc, .slice xa.ga rg xa.gc]), (M, #[.bool nl, .slice b.ca nc b.cc, .slice b.ka nk b.kc, .slice b.ga ng b.gc]), (N, #[.bool nl, .slice ca nc cc, .slice ka nk kc, .slice ga ng gc])] [(R2, xo), (m, xc), (m, b), (R, xa)]) := ((unhide HK15).below (unhide HBb)).box (unhide HXb); obtain ⟨y0, y1, y2, y3⟩ := box4 ((unhide HK16).at_ (M := M) (b := #[.bool nl, .slice b.ca nc b.cc, .slice b.ka nk b.kc, .slice b.ga ng b.gc]) (by simp)); clear HXb HBb; clear HXa HBa HSa HEb)
    | (refine wpList_callv (by rfl) (.tmp 69) (.tmp 70) _ (by rfl) F1 c1 (by with_unfolding_all rfl) (.agg #[.bool nl, .slice b.ca nc b.cc, .slice b.ka nk b.kc, .slice b.ga ng b.gc]) (by with_unfolding_all rfl) (unhide HE1) (some 71) (by rfl) _ (unhide HAM V7 (unhide HK16).bel ((unhide HK16).nd_ (m := m) (x := b) (by simp))) ?_; rintro _ V8 ⟨xm, rfl, hom, hb8⟩; simp only [Act.put, List.setIfInBounds_toArray, List.set_cons_zero, List.set_cons_succ]; have HK17 := hide (((unhide HK16).below hb8).node (hom.at' (unhide HRF2))); clear hom hb8 y0 y1 y2 y3; obtain ⟨M6, hM6⟩ : ∃ M6, M6 = V8.heap.size := ⟨_, rfl⟩; have HM6 := hide hM6; clear hM6)
    | ((with_reducible refine wpList_alloc_node (by rfl) (by rfl) (some 15) (by rfl) M6 (unhide HM6) ?_); intro V9a HXa HBa HSa; simp only [Act.put, List.setIfInBounds_toArray, List.set_cons_zero, List.set_cons_succ])
    | ((with_reducible refine wpList_store_node (by rfl) (.tmp 15) (.tmp 72) (by rfl) M6 sl xm.ca sc xm.cc xm.ka sk xm.kc xm.ga sg xm.gc (by with_unfolding_all rfl) (by with_unfolding_all rfl) (unhide HXa) ?_); intro V9 HXb HEb; simp only [Act.put]; have HBb : Hid (Below V8.heap.size V8 V9) := (by rw [unhide HEb, ← unhide HM6]; exact belowRow (unhide HBa) (Nat.le_refl _) _); have HK18 : Hid (Kept u V9 N [(M6, #[.bool sl, .slice xm.ca sc xm.cc, .slice xm.ka sk xm.kc, .slice xm.ga sg xm.gc]), (M5, #[.bool sl, .slice xo.ca sc xo.cc, .slice xo.ka sk xo.kc, .slice xo.ga sg xo.gc]), (M4, #[.bool nl, .slice xc.ca nc xc.cc, .slice xc.ka nk xc.kc, .slice xc.ga ng xc.gc]), (M3, #[.bool rl, .slice xb.ca rc xb.cc, .slice xb.ka rk xb.kc, .slice xb.ga rg xb.gc]), (M2, #[.bool rl, .slice xa.ca rc xa.cc, .slice xa.ka rk xa.kc, .slice xa.ga rg xa.gc]), (M, #[.bool nl, .slice b.ca nc b.cc, .slice b.ka nk b.kc, .slice b.ga ng b.gc]), (N, #[.bool nl, .slice ca nc cc, .slice ka nk kc, .slice ga ng gc])] [(R2, xm), (R2, xo), (m, xc), (m, b), (R, xa)]) := ((unhide HK17).below (unhide HBb)).box (unhide HXb); obtain ⟨y0, y1, y2, y3⟩ := box4 ((unhide HK18).at_ (M := M6) (b := #[.bool sl, .slice xm.ca sc xm.cc, .slice xm.ka sk xm.kc, .slice xm.ga sg xm.gc]) (by simp)); obtain ⟨z0, z1, z2, z3⟩ := box4 ((unhide HK18).at_ (M := M5) (b := #[.bool sl, .slice xo.ca sc xo.cc, .slice xo.ka sk xo.kc, .slice xo.ga sg xo.gc]) (by simp)); clear HXb HBb; clear HXa HBa HSa HEb)
    | fail)
  have HS18 := hide (rSame R2 xm xo V9 ((unhide HK18).nd_ (m := R2) (x := xm) (by simp)) ((unhide HK18).nd_ (m := R2) (x := xo) (by simp)))
  rw [unhide HVS, unhide HVS] at HS18
  refine (unhide HS18).mono ?_
  rintro e V10 ⟨rfl, hb10⟩
  have HK19 := hide ((unhide HK18).below hb10)
  clear hb10 HS18 y0 y1 y2 y3 z0 z1 z2 z3
  obtain ⟨y0, y1, y2, y3⟩ := box4 ((unhide HK19).at_ (M := N) (b := #[.bool nl, .slice ca nc cc, .slice ka nk kc, .slice ga ng gc]) (by simp))
  have HS19 := hide (lLent n ⟨ca, cc, ka, kc, ga, gc⟩ V10 ((unhide HA).below (by rw [← unhide HN]; exact (unhide HK19).bel)) (unhide HNIL) (unhide HF))
  rw [unhide HVN] at HS19
  go_wp2_with fail
  refine (unhide HS19).mono ?_
  rintro e V11 ⟨b9, rfl, hle9, hb11⟩
  have HK20 := hide ((unhide HK19).below hb11)
  have HL20 := hide hle9.at_
  rw [unhide HVN b9]
  clear hle9 hb11 HS19 y0 y1 y2 y3
  go_wp2_with (first
    | (refine wpList_callv (by rfl) (.tmp 84) (.tmp 86) _ (by rfl) F1 c1 (by with_unfolding_all rfl) (.agg #[.bool nl, .slice b9.ca nc b9.cc, .slice b9.ka nk b9.kc, .slice b9.ga ng b9.gc]) (by with_unfolding_all rfl) (unhide HE1) (some 87) (by rfl) _ (unhide HAN V11 b9 (unhide HK20).bel (unhide HL20)) ?_; rintro _ V12 ⟨xz, rfl, hoz, hb12⟩; simp only [Act.put, List.setIfInBounds_toArray, List.set_cons_zero, List.set_cons_succ]; have HK21 := hide (((unhide HK20).below hb12).node (hoz.at' (unhide HRF))); clear hoz hb12; obtain ⟨M7, hM7⟩ : ∃ M7, M7 = V12.heap.size := ⟨_, rfl⟩; have HM7 := hide hM7; clear hM7)
    | ((with_reducible refine wpList_alloc_node (by rfl) (by rfl) (some 17) (by rfl) M7 (unhide HM7) ?_); intro V13a HXa HBa HSa; simp only [Act.put, List.setIfInBounds_toArray, List.set_cons_zero, List.set_cons_succ])
    | ((with_reducible refine wpList_store_node (by rfl) (.tmp 17) (.tmp 88) (by rfl) M7 rl xz.ca rc xz.cc xz.ka rk xz.kc xz.ga rg xz.gc (by with_unfolding_all rfl) (by with_unfolding_all rfl) (unhide HXa) ?_); intro V13 HXb HEb; simp only [Act.put]; have HBb : Hid (Below V12.heap.size V12 V13) := (by rw [unhide HEb, ← unhide HM7]; exact belowRow (unhide HBa) (Nat.le_refl _) _); have HK22 : Hid (Kept u V13 N [(M7, #[.bool rl, .slice xz.ca rc xz.cc, .slice xz.ka rk xz.kc, .slice xz.ga rg xz.gc]), (M6, #[.bool sl, .slice xm.ca sc xm.cc, .slice xm.ka sk xm.kc, .slice xm.ga sg xm.gc]), (M5, #[.bool sl, .slice xo.ca sc xo.cc, .slice xo.ka sk xo.kc, .slice xo.ga sg xo.gc]), (M4, #[.bool nl, .slice xc.ca nc xc.cc, .slice xc.ka nk xc.kc, .slice xc.ga ng xc.gc]), (M3, #[.bool rl, .slice xb.ca rc xb.cc, .slice xb.ka rk xb.kc, .slice xb.ga rg xb.gc]), (M2, #[.bool rl, .slice xa.ca rc xa.cc, .slice xa.ka rk xa.kc, .slice xa.ga rg xa.gc]), (M, #[.bool nl, .slice b.ca nc b.cc, .slice b.ka nk b.kc, .slice b.ga ng b.gc]), (N, #[.bool nl, .slice ca nc cc, .slice ka nk kc, .slice ga ng gc])] [(R, xz), (R2, xm), (R2, xo), (m, xc), (m, b), (R, xa)]) := ((unhide HK21).below (unhide HBb)).box (unhide HXb); obtain ⟨y0, y1, y2, y3⟩ := box4 ((unhide HK22).at_ (M := M7) (b := #[.bool rl, .slice xz.ca rc xz.cc, .slice xz.ka rk xz.kc, .slice xz.ga rg xz.gc]) (by simp)); obtain ⟨z0, z1, z2, z3⟩ := box4 ((unhide HK22).at_ (M := M2) (b := #[.bool rl, .slice xa.ca rc xa.cc, .slice xa.ka rk xa.kc, .slice xa.ga rg xa.gc]) (by simp)); clear HXb HBb; clear HXa HBa HSa HEb)
    | fail)
  have HS22 := hide (rSame R xz xa V13 ((unhide HK22).nd_ (m := R) (x := xz) (by simp)) ((unhide HK22).nd_ (m := R) (x := xa) (by simp)))
  rw [unhide HVR, unhide HVR] at HS22
  refine (unhide HS22).mono ?_
  rintro e V14 ⟨rfl, hb14⟩
  have HK23 := hide ((unhide HK22).below hb14)
  clear hb14 HS22
  go_wp2
  go_ret
  exact ⟨rfl, (unhide HK23).bel⟩
end
section
open Go.RowKit
theorem nPutF (n : Nd) (a : Nv) (key val : ByteArray) (hks : key.size ≤ 140737488355328) (hvs : val.size ≤ 140737488355328) (u : World) (h : NdAt u n a) (_ : n.Few) : Calls Try.prog 35 #[a.v n, .string key, .string val] u fun e u' => ∃ y : Nv, e = .returned (.tuple #[y.v (n.ptR key val), .int .i64 (n.ptE key val)]) ∧ Ow u' u.heap.size (n.ptR key val).cells (n.ptR key val).keys (n.ptR key val).kids y ∧ Below u.heap.size u u' := by
  refine (nPutO n a key val (by omega) (by omega) u h).mono ?_
  rintro e w' ⟨V, E, rfl, hR, hb⟩
  rcases hR with ⟨h1, rfl, rfl⟩ | ⟨h1, h2, rfl, rfl⟩ | ⟨h1, h2, h3, rfl, rfl⟩ | ⟨h1, h2, h3, rfl, G, c, rfl, hG, hO⟩
  · have hE : n.ptE key val = n.refused true := by unfold Nd.ptE; rw [if_pos h1]
    have hR : n.ptR key val = zeroNd := by unfold Nd.ptR; rw [if_neg (fun hx => h1 hx.1)]
    rw [hE, hR]
    exact ⟨⟨none, 0, none, 0, none, 0⟩, rfl, zero_ow _ _, hb⟩
  · have hE : n.ptE key val = 1 := by unfold Nd.ptE; rw [if_neg (fun hx => hx h1), if_pos h2]
    have hR : n.ptR key val = zeroNd := by unfold Nd.ptR; rw [if_neg (fun hx => hx.2.1 h2)]
    rw [hE, hR]
    exact ⟨⟨none, 0, none, 0, none, 0⟩, rfl, zero_ow _ _, hb⟩
  · have hE : n.ptE key val = (n.put key val).check := by unfold Nd.ptE; rw [if_neg (fun hx => hx h1), if_neg h2]
    have hR : n.ptR key val = zeroNd := by unfold Nd.ptR; rw [if_neg (fun hx => h3 hx.2.2)]
    rw [hE, hR]
    exact ⟨⟨none, 0, none, 0, none, 0⟩, rfl, zero_ow _ _, hb⟩
  · have hE : n.ptE key val = 0 := by unfold Nd.ptE; rw [if_neg (fun hx => hx h1), if_neg h2, h3]
    have hR : n.ptR key val = n.put key val := by unfold Nd.ptR; rw [if_pos ⟨h1, h2, h3⟩]
    rw [hE, hR]
    have hl := (Nd.check_zero.1 h3).lens.1
    exact ⟨_, rfl, hO.ow hG rfl rfl (by omega), hb⟩
theorem nTakeF (n : Nd) (a : Nv) (key : ByteArray) (u : World) (h : NdAt u n a) (_ : n.Few) : Calls Try.prog 40 #[a.v n, .string key] u fun e u' => ∃ y : Nv, e = .returned (.tuple #[y.v (n.tkR key), .bool (n.tkB key)]) ∧ Ow u' u.heap.size (n.tkR key).cells (n.tkR key).keys (n.tkR key).kids y ∧ Below u.heap.size u u' := by
  refine (nTakeO n a key u h).mono ?_
  rintro e w' ⟨V, b, rfl, hR, hb⟩
  rcases hR with ⟨h1, rfl, rfl⟩ | ⟨h1, rfl, G, c, rfl, hG, hO⟩
  · have hB : n.tkB key = false := by
      cases hx : n.tkB key
      · rfl
      · exact absurd (Nd.tkB_true hx) h1
    have hR : n.tkR key = zeroNd := by unfold Nd.tkR; rw [hB]; rfl
    rw [hB, hR]
    exact ⟨⟨none, 0, none, 0, none, 0⟩, rfl, zero_ow _ _, hb⟩
  · have hB : n.tkB key = true := by
      cases hx : n.tkB key
      · exact absurd h1 (Nd.tkB_false hx)
      · rfl
    have hR : n.tkR key = n.take key := by unfold Nd.tkR; rw [hB]; rfl
    rw [hB, hR]
    have hl := (Nd.refused_zero.1 h1.1).1.lens.1
    refine ⟨_, rfl, hO.ow hG rfl rfl ?_, hb⟩
    simp only [Nd.take, List.length_append, List.length_take, List.length_drop]
    omega
set_option maxRecDepth 100000 in
set_option maxHeartbeats 4000000 in
theorem aPut1 (n : Nd) (a : Nv) (key val : ByteArray) (hks : key.size ≤ 140737488355328) (hvs : val.size ≤ 140737488355328) (X Y : Nat) (u : World) (h : NdAt u n a) (hf : n.Few) (hX : u.cell? ⟨X, 0, none⟩ = some (.string key)) (hY : u.cell? ⟨Y, 0, none⟩ = some (.string val)) :
    Calls Try.prog 34 (#[a.v n] ++ #[.pointer (some ⟨X, 0, none⟩), .pointer (some ⟨Y, 0, none⟩)]) u fun e u' => ∃ r, e = .returned r ∧ ∃ y : Nv, r = .tuple #[y.v (n.ptR key val), .int .i64 (n.ptE key val)] ∧ Ow u' u.heap.size (n.ptR key val).cells (n.ptR key val).keys (n.ptR key val).kids y ∧ Below u.heap.size u u' := by
  have H1 := hide (fun (v : World) (hv : Below u.heap.size u v) => nPutF n a key val hks hvs v (h.below hv) hf)
  have HX : Hid (∀ v : World, Below u.heap.size u v → v.cell? ⟨X, 0, none⟩ = some (.string key) ∧ v.cell? ⟨Y, 0, none⟩ = some (.string val)) := fun v hv => ⟨(hv.cell (World.block_lt_of_cell? u _ hX)).trans hX, (hv.cell (World.block_lt_of_cell? u _ hY)).trans hY⟩
  clear h hf hX hY hks hvs
  obtain ⟨N, hN⟩ : ∃ N, N = u.heap.size := ⟨_, rfl⟩
  have HN := hide hN
  rw [← hN] at H1 HX ⊢
  clear hN
  rw [Nv.v_eq] at H1 ⊢
  obtain ⟨ca, cc, ka, kc, ga, gc⟩ := a
  generalize n.ptR key val = R at *
  generalize n.ptE key val = E at *
  obtain ⟨rl, rcs, rks, rgs⟩ := R
  generalize n.cells.length = cn at *
  generalize n.keys.length = kn at *
  generalize n.kids.length = gn at *
  generalize n.leaf = lf at *
  have HVR : Hid (∀ x : Nv, x.v ⟨rl, rcs, rks, rgs⟩ = .agg #[.bool rl, .slice x.ca rcs.length x.cc, .slice x.ka rks.length x.kc, .slice x.ga rgs.length x.gc]) := fun x => rfl
  go_enter Try.func34, Try.ntmps34
  go_wp2_with (first
    | ((with_reducible refine wpList_box_node (by rfl) (.tmp 0) (by rfl) (some 3) (by rfl) N (unhide HN) lf ca cn cc ka kn kc ga gn gc (by with_unfolding_all rfl) ?_); intro W0 HX0 HB0 HS0; simp only [Act.put, List.setIfInBounds_toArray, List.set_cons_zero, List.set_cons_succ])
    | ((with_reducible refine wpList_alloc_node (by rfl) (by rfl) (some 4) (by rfl) (N + 1) (unhide HS0).symm ?_); intro W1 HX1 HB1 HS1; simp only [Act.put, List.setIfInBounds_toArray, List.set_cons_zero, List.set_cons_succ]; have HBL : Hid (Below N u W1) := (unhide HB0).trans ((unhide HB1).mono (Nat.le_succ _)); obtain ⟨y0, y1, y2, y3⟩ := box4 (((unhide HB1).block N (Nat.lt_succ_self _)).trans (unhide HX0)); obtain ⟨c0, c1⟩ := unhide HX _ (unhide HBL))
    | fail)
  refine (unhide H1 _ (unhide HBL)).mono ?_
  rintro e W2 ⟨y, rfl, how, hb2⟩
  have HX2 := hide (box_below (unhide HX1) hb2)
  have HBL2 : Hid (Below N u W2) := (unhide HBL).trans (hb2.mono (by rw [unhide HS1]; omega))
  have HOW : Hid (Ow W2 N rcs rks rgs y) := ⟨own_down how.c (by rw [unhide HS1]; omega), own_down how.k (by rw [unhide HS1]; omega), own_down how.g (by rw [unhide HS1]; omega)⟩
  rw [unhide HVR]
  clear how hb2 y0 y1 y2 y3 c0 c1 HX0 HB0 HS0 HB1 HS1 HX1 HBL
  generalize hrc : rcs.length = rc at *
  generalize hrk : rks.length = rk at *
  generalize hrg : rgs.length = rg at *
  have HRL := hide (And.intro hrc (And.intro hrk hrg))
  clear hrc hrk hrg
  go_wp2_with (first
    | ((with_reducible refine wpList_store_node (by rfl) (.tmp 4) (.tmp 10) (by rfl) (N + 1) rl y.ca rc y.cc y.ka rk y.kc y.ga rg y.gc (by with_unfolding_all rfl) (by with_unfolding_all rfl) (unhide HX2) ?_); intro W3 HX3 HE3; simp only [Act.put])
    | fail)
  have HZ : Hid (Below N u W3 ∧ Ow W3 N rcs rks rgs y) := by
    rw [unhide HE3]
    refine ⟨belowRow (unhide HBL2) (Nat.le_succ N) _, own_keep (unhide HOW).c (fun g hg => heapRow_other _ _ _ _ ?_), own_keep (unhide HOW).k (fun g hg => heapRow_other _ _ _ _ ?_), own_keep (unhide HOW).g (fun g hg => heapRow_other _ _ _ _ ?_)⟩
    · exact not_node (unhide HOW).c (by decide) (unhide HX2) g hg
    · exact not_node (unhide HOW).k (by decide) (unhide HX2) g hg
    · exact not_node (unhide HOW).g (by decide) (unhide HX2) g hg
  go_wp2
  refine bodyPost_ret (results_cell_tmp rfl _ _ (N + 1) 26 #[.bool rl, .slice y.ca rc y.cc, .slice y.ka rk y.kc, .slice y.ga rg y.gc] (0, 0) _ rfl (unhide HX3) nodeUnd rfl nodeInfo) rfl ?_
  exact ⟨_, rfl, y, by first | (rw [unhide HVR]; done) | (rw [unhide HVR]; rfl), (unhide HZ).2, (unhide HZ).1⟩
set_option maxRecDepth 100000 in
set_option maxHeartbeats 4000000 in
theorem aPut2 (n : Nd) (a : Nv) (key val : ByteArray) (hks : key.size ≤ 140737488355328) (hvs : val.size ≤ 140737488355328) (X Y : Nat) (u : World) (h : NdAt u n a) (hf : n.Few) (hX : u.cell? ⟨X, 0, none⟩ = some (.string key)) (hY : u.cell? ⟨Y, 0, none⟩ = some (.string val)) :
    Calls Try.prog 36 (#[a.v n] ++ #[.pointer (some ⟨X, 0, none⟩), .pointer (some ⟨Y, 0, none⟩)]) u fun e u' => ∃ r, e = .returned r ∧ ∃ y : Nv, r = .tuple #[y.v (n.ptR key val), .int .i64 (n.ptE key val)] ∧ Ow u' u.heap.size (n.ptR key val).cells (n.ptR key val).keys (n.ptR key val).kids y ∧ Below u.heap.size u u' := by
  have H1 := hide (fun (v : World) (hv : Below u.heap.size u v) => rPutO n a key val hks hvs v (h.below hv) hf)
  have HX : Hid (∀ v : World, Below u.heap.size u v → v.cell? ⟨X, 0, none⟩ = some (.string key) ∧ v.cell? ⟨Y, 0, none⟩ = some (.string val)) := fun v hv => ⟨(hv.cell (World.block_lt_of_cell? u _ hX)).trans hX, (hv.cell (World.block_lt_of_cell? u _ hY)).trans hY⟩
  clear h hf hX hY hks hvs
  obtain ⟨N, hN⟩ : ∃ N, N = u.heap.size := ⟨_, rfl⟩
  have HN := hide hN
  rw [← hN] at H1 HX ⊢
  clear hN
  rw [Nv.v_eq] at H1 ⊢
  obtain ⟨ca, cc, ka, kc, ga, gc⟩ := a
  generalize n.ptR key val = R at *
  generalize n.ptE key val = E at *
  obtain ⟨rl, rcs, rks, rgs⟩ := R
  generalize n.cells.length = cn at *
  generalize n.keys.length = kn at *
  generalize n.kids.length = gn at *
  generalize n.leaf = lf at *
  have HVR : Hid (∀ x : Nv, x.v ⟨rl, rcs, rks, rgs⟩ = .agg #[.bool rl, .slice x.ca rcs.length x.cc, .slice x.ka rks.length x.kc, .slice x.ga rgs.length x.gc]) := fun x => rfl
  go_enter Try.func36, Try.ntmps36
  go_wp2_with (first
    | ((with_reducible refine wpList_box_node (by rfl) (.tmp 0) (by rfl) (some 3) (by rfl) N (unhide HN) lf ca cn cc ka kn kc ga gn gc (by with_unfolding_all rfl) ?_); intro W0 HX0 HB0 HS0; simp only [Act.put, List.setIfInBounds_toArray, List.set_cons_zero, List.set_cons_succ])
    | ((with_reducible refine wpList_alloc_node (by rfl) (by rfl) (some 4) (by rfl) (N + 1) (unhide HS0).symm ?_); intro W1 HX1 HB1 HS1; simp only [Act.put, List.setIfInBounds_toArray, List.set_cons_zero, List.set_cons_succ]; have HBL : Hid (Below N u W1) := (unhide HB0).trans ((unhide HB1).mono (Nat.le_succ _)); obtain ⟨y0, y1, y2, y3⟩ := box4 (((unhide HB1).block N (Nat.lt_succ_self _)).trans (unhide HX0)); obtain ⟨c0, c1⟩ := unhide HX _ (unhide HBL))
    | fail)
  refine (unhide H1 _ (unhide HBL)).mono ?_
  rintro e W2 ⟨y, rfl, how, hb2⟩
  have HX2 := hide (box_below (unhide HX1) hb2)
  have HBL2 : Hid (Below N u W2) := (unhide HBL).trans (hb2.mono (by rw [unhide HS1]; omega))
  have HOW : Hid (Ow W2 N rcs rks rgs y) := ⟨own_down how.c (by rw [unhide HS1]; omega), own_down how.k (by rw [unhide HS1]; omega), own_down how.g (by rw [unhide HS1]; omega)⟩
  rw [unhide HVR]
  clear how hb2 y0 y1 y2 y3 c0 c1 HX0 HB0 HS0 HB1 HS1 HX1 HBL
  generalize hrc : rcs.length = rc at *
  generalize hrk : rks.length = rk at *
  generalize hrg : rgs.length = rg at *
  have HRL := hide (And.intro hrc (And.intro hrk hrg))
  clear hrc hrk hrg
  go_wp2_with (first
    | ((with_reducible refine wpList_store_node (by rfl) (.tmp 4) (.tmp 10) (by rfl) (N + 1) rl y.ca rc y.cc y.ka rk y.kc y.ga rg y.gc (by with_unfolding_all rfl) (by with_unfolding_all rfl) (unhide HX2) ?_); intro W3 HX3 HE3; simp only [Act.put])
    | fail)
  have HZ : Hid (Below N u W3 ∧ Ow W3 N rcs rks rgs y) := by
    rw [unhide HE3]
    refine ⟨belowRow (unhide HBL2) (Nat.le_succ N) _, own_keep (unhide HOW).c (fun g hg => heapRow_other _ _ _ _ ?_), own_keep (unhide HOW).k (fun g hg => heapRow_other _ _ _ _ ?_), own_keep (unhide HOW).g (fun g hg => heapRow_other _ _ _ _ ?_)⟩
    · exact not_node (unhide HOW).c (by decide) (unhide HX2) g hg
    · exact not_node (unhide HOW).k (by decide) (unhide HX2) g hg
    · exact not_node (unhide HOW).g (by decide) (unhide HX2) g hg
  go_wp2
  refine bodyPost_ret (results_cell_tmp rfl _ _ (N + 1) 26 #[.bool rl, .slice y.ca rc y.cc, .slice y.ka rk y.kc, .slice y.ga rg y.gc] (0, 0) _ rfl (unhide HX3) nodeUnd rfl nodeInfo) rfl ?_
  exact ⟨_, rfl, y, by first | (rw [unhide HVR]; done) | (rw [unhide HVR]; rfl), (unhide HZ).2, (unhide HZ).1⟩
end
section
open Go.RowKit
noncomputable def Nd.tkE (n : Nd) (key : ByteArray) : Int := if n.tkB key = true then 0 else 9999
set_option maxRecDepth 100000 in
set_option maxHeartbeats 4000000 in
theorem lTaken (m : Nd) (x : Nv) (b : Bool) (u : World) : Calls Try.prog 39 #[x.v m, .bool b] u fun e u' => e = .returned (.tuple #[x.v m, .int .i64 (if b = true then 0 else 9999)]) ∧ Below u.heap.size u u' := by
  obtain ⟨N, hN⟩ : ∃ N, N = u.heap.size := ⟨_, rfl⟩
  have HN := hide hN
  rw [← hN]
  clear hN
  rw [Nv.v_eq]
  obtain ⟨ca, cc, ka, kc, ga, gc⟩ := x
  generalize m.cells.length = cn at *
  generalize m.keys.length = kn at *
  generalize m.kids.length = gn at *
  generalize m.leaf = lf at *
  cases b
  · show Calls Try.prog 39 _ u fun e u' => e = .returned (.tuple #[_, .int .i64 9999]) ∧ Below N u u'
    go_enter Try.func39, Try.ntmps39
    go_wp2_with (first
      | ((with_reducible refine wpList_box_node (by rfl) (.tmp 0) (by rfl) (some 2) (by rfl) N (unhide HN) lf ca cn cc ka kn kc ga gn gc (by with_unfolding_all rfl) ?_); intro W0 HX0 HB0 HS0; simp only [Act.put, List.setIfInBounds_toArray, List.set_cons_zero, List.set_cons_succ])
      | ((with_reducible refine wpList_alloc_node (by rfl) (by rfl) (some 4) (by rfl) (N + 1) (unhide HS0).symm ?_); intro W1 HX1 HB1 HS1; simp only [Act.put, List.setIfInBounds_toArray, List.set_cons_zero, List.set_cons_succ]; obtain ⟨y0, y1, y2, y3⟩ := box4 (((unhide HB1).block N (Nat.lt_succ_self _)).trans (unhide HX0)))
      | ((with_reducible refine wpList_store_node (by rfl) (.tmp 4) (.tmp 8) (by rfl) (N + 1) lf ca cn cc ka kn kc ga gn gc (by with_unfolding_all rfl) (by with_unfolding_all rfl) (unhide HX1) ?_); intro W3 HX3 HE3; simp only [Act.put])
      | fail)
    have HB3 : Hid (Below N u W3) := by rw [unhide HE3]; exact belowRow ((unhide HB0).trans ((unhide HB1).mono (Nat.le_succ _))) (Nat.le_succ N) _
    go_wp2
    refine bodyPost_ret (results_cell_tmp rfl _ _ (N + 1) 26 #[.bool lf, .slice ca cn cc, .slice ka kn kc, .slice ga gn gc] (0, 0) _ rfl (unhide HX3) nodeUnd rfl nodeInfo) rfl ?_
    exact ⟨rfl, unhide HB3⟩
  · show Calls Try.prog 39 _ u fun e u' => e = .returned (.tuple #[_, .int .i64 0]) ∧ Below N u u'
    go_enter Try.func39, Try.ntmps39
    go_wp2_with (first
      | ((with_reducible refine wpList_box_node (by rfl) (.tmp 0) (by rfl) (some 2) (by rfl) N (unhide HN) lf ca cn cc ka kn kc ga gn gc (by with_unfolding_all rfl) ?_); intro W0 HX0 HB0 HS0; simp only [Act.put, List.setIfInBounds_toArray, List.set_cons_zero, List.set_cons_succ])
      | ((with_reducible refine wpList_alloc_node (by rfl) (by rfl) (some 4) (by rfl) (N + 1) (unhide HS0).symm ?_); intro W1 HX1 HB1 HS1; simp only [Act.put, List.setIfInBounds_toArray, List.set_cons_zero, List.set_cons_succ]; obtain ⟨y0, y1, y2, y3⟩ := box4 (((unhide HB1).block N (Nat.lt_succ_self _)).trans (unhide HX0)))
      | ((with_reducible refine wpList_store_node (by rfl) (.tmp 4) (.tmp 7) (by rfl) (N + 1) lf ca cn cc ka kn kc ga gn gc (by with_unfolding_all rfl) (by with_unfolding_all rfl) (unhide HX1) ?_); intro W3 HX3 HE3; simp only [Act.put])
      | fail)
    have HB3 : Hid (Below N u W3) := by rw [unhide HE3]; exact belowRow ((unhide HB0).trans ((unhide HB1).mono (Nat.le_succ _))) (Nat.le_succ N) _
    go_wp2
    refine bodyPost_ret (results_cell_tmp rfl _ _ (N + 1) 26 #[.bool lf, .slice ca cn cc, .slice ka kn kc, .slice ga gn gc] (0, 0) _ rfl (unhide HX3) nodeUnd rfl nodeInfo) rfl ?_
    exact ⟨rfl, unhide HB3⟩
set_option maxRecDepth 100000 in
set_option maxHeartbeats 4000000 in
theorem aTake1 (n : Nd) (a : Nv) (key : ByteArray) (X : Nat) (u : World) (h : NdAt u n a) (hf : n.Few) (hX : u.cell? ⟨X, 0, none⟩ = some (.string key)) :
    Calls Try.prog 38 (#[a.v n] ++ #[.pointer (some ⟨X, 0, none⟩)]) u fun e u' => ∃ r, e = .returned r ∧ ∃ y : Nv, r = .tuple #[y.v (n.tkR key), .int .i64 (n.tkE key)] ∧ Ow u' u.heap.size (n.tkR key).cells (n.tkR key).keys (n.tkR key).kids y ∧ Below u.heap.size u u' := by
  have H1 := hide (fun (v : World) (hv : Below u.heap.size u v) => nTakeF n a key v (h.below hv) hf)
  have HX : Hid (∀ v : World, Below u.heap.size u v → v.cell? ⟨X, 0, none⟩ = some (.string key)) := fun v hv => (hv.cell (World.block_lt_of_cell? u _ hX)).trans hX
  have HTE : Hid (n.tkE key = if n.tkB key = true then 0 else 9999) := rfl
  clear h hf hX
  obtain ⟨N, hN⟩ : ∃ N, N = u.heap.size := ⟨_, rfl⟩
  have HN := hide hN
  rw [← hN] at H1 HX ⊢
  clear hN
  rw [Nv.v_eq] at H1 ⊢
  obtain ⟨ca, cc, ka, kc, ga, gc⟩ := a
  generalize n.tkR key = R at *
  generalize n.tkB key = tb at *
  generalize n.tkE key = E at *
  obtain ⟨rl, rcs, rks, rgs⟩ := R
  generalize n.cells.length = cn at *
  generalize n.keys.length = kn at *
  generalize n.kids.length = gn at *
  generalize n.leaf = lf at *
  have HVR : Hid (∀ x : Nv, x.v ⟨rl, rcs, rks, rgs⟩ = .agg #[.bool rl, .slice x.ca rcs.length x.cc, .slice x.ka rks.length x.kc, .slice x.ga rgs.length x.gc]) := fun x => rfl
  go_enter Try.func38, Try.ntmps38
  go_wp2_with (first
    | ((with_reducible refine wpList_box_node (by rfl) (.tmp 0) (by rfl) (some 2) (by rfl) N (unhide HN) lf ca cn cc ka kn kc ga gn gc (by with_unfolding_all rfl) ?_); intro W0 HX0 HB0 HS0; simp only [Act.put, List.setIfInBounds_toArray, List.set_cons_zero, List.set_cons_succ])
    | ((with_reducible refine wpList_alloc_node (by rfl) (by rfl) (some 3) (by rfl) (N + 1) (unhide HS0).symm ?_); intro W1 HX1 HB1 HS1; simp only [Act.put, List.setIfInBounds_toArray, List.set_cons_zero, List.set_cons_succ]; have HBL : Hid (Below N u W1) := (unhide HB0).trans ((unhide HB1).mono (Nat.le_succ _)); obtain ⟨y0, y1, y2, y3⟩ := box4 (((unhide HB1).block N (Nat.lt_succ_self _)).trans (unhide HX0)); have c0 := unhide HX _ (unhide HBL))
    | fail)
  refine (unhide H1 _ (unhide HBL)).mono ?_
  rintro e W2 ⟨y, rfl, how, hb2⟩
  have HX2 := hide (box_below (unhide HX1) hb2)
  have HBL2 : Hid (Below N u W2) := (unhide HBL).trans (hb2.mono (by rw [unhide HS1]; omega))
  have HOW : Hid (Ow W2 N rcs rks rgs y) := ⟨own_down how.c (by rw [unhide HS1]; omega), own_down how.k (by rw [unhide HS1]; omega), own_down how.g (by rw [unhide HS1]; omega)⟩
  have HTK := hide (lTaken ⟨rl, rcs, rks, rgs⟩ y tb W2)
  rw [← unhide HTE, unhide HVR] at HTK
  rw [unhide HVR]
  clear how hb2 y0 y1 y2 y3 c0 HX0 HB0 HS0 HB1 HS1 HX1 HBL
  generalize hrc : rcs.length = rc at *
  generalize hrk : rks.length = rk at *
  generalize hrg : rgs.length = rg at *
  have HRL := hide (And.intro hrc (And.intro hrk hrg))
  clear hrc hrk hrg
  go_wp2_with fail
  refine (unhide HTK).mono ?_
  rintro e W2b ⟨rfl, hb2⟩
  have HX2b := hide (box_below (unhide HX2) hb2)
  have HOWb := hide ((unhide HOW).below hb2)
  have HBL2b : Hid (Below N u W2b) := (unhide HBL2).trans (hb2.mono (by have := (Array.getElem?_eq_some_iff.1 (unhide HX2)).1; omega))
  clear hb2
  go_wp2_with (first
    | ((with_reducible refine wpList_store_node (by rfl) (.tmp 3) (.tmp 11) (by rfl) (N + 1) rl y.ca rc y.cc y.ka rk y.kc y.ga rg y.gc (by with_unfolding_all rfl) (by with_unfolding_all rfl) (unhide HX2b) ?_); intro W3 HX3 HE3; simp only [Act.put])
    | fail)
  have HZ : Hid (Below N u W3 ∧ Ow W3 N rcs rks rgs y) := by
    rw [unhide HE3]
    refine ⟨belowRow (unhide HBL2b) (Nat.le_succ N) _, own_keep (unhide HOWb).c (fun g hg => heapRow_other _ _ _ _ ?_), own_keep (unhide HOWb).k (fun g hg => heapRow_other _ _ _ _ ?_), own_keep (unhide HOWb).g (fun g hg => heapRow_other _ _ _ _ ?_)⟩
    · exact not_node (unhide HOWb).c (by decide) (unhide HX2b) g hg
    · exact not_node (unhide HOWb).k (by decide) (unhide HX2b) g hg
    · exact not_node (unhide HOWb).g (by decide) (unhide HX2b) g hg
  go_wp2
  refine bodyPost_ret (results_cell_tmp rfl _ _ (N + 1) 26 #[.bool rl, .slice y.ca rc y.cc, .slice y.ka rk y.kc, .slice y.ga rg y.gc] (0, 0) _ rfl (unhide HX3) nodeUnd rfl nodeInfo) rfl ?_
  exact ⟨_, rfl, y, by first | (rw [unhide HVR]; done) | (rw [unhide HVR]; rfl), (unhide HZ).2, (unhide HZ).1⟩
set_option maxRecDepth 100000 in
set_option maxHeartbeats 4000000 in
theorem aTake2 (n : Nd) (a : Nv) (key : ByteArray) (X : Nat) (u : World) (h : NdAt u n a) (hf : n.Few) (hX : u.cell? ⟨X, 0, none⟩ = some (.string key)) :
    Calls Try.prog 41 (#[a.v n] ++ #[.pointer (some ⟨X, 0, none⟩)]) u fun e u' => ∃ r, e = .returned r ∧ ∃ y : Nv, r = .tuple #[y.v (n.tkR key), .int .i64 (n.tkE key)] ∧ Ow u' u.heap.size (n.tkR key).cells (n.tkR key).keys (n.tkR key).kids y ∧ Below u.heap.size u u' := by
  have H1 := hide (fun (v : World) (hv : Below u.heap.size u v) => rTakeO n a key v (h.below hv) hf)
  have HX : Hid (∀ v : World, Below u.heap.size u v → v.cell? ⟨X, 0, none⟩ = some (.string key)) := fun v hv => (hv.cell (World.block_lt_of_cell? u _ hX)).trans hX
  have HTE : Hid (n.tkE key = if n.tkB key = true then 0 else 9999) := rfl
  clear h hf hX
  obtain ⟨N, hN⟩ : ∃ N, N = u.heap.size := ⟨_, rfl⟩
  have HN := hide hN
  rw [← hN] at H1 HX ⊢
  clear hN
  rw [Nv.v_eq] at H1 ⊢
  obtain ⟨ca, cc, ka, kc, ga, gc⟩ := a
  generalize n.tkR key = R at *
  generalize n.tkB key = tb at *
  generalize n.tkE key = E at *
  obtain ⟨rl, rcs, rks, rgs⟩ := R
  generalize n.cells.length = cn at *
  generalize n.keys.length = kn at *
  generalize n.kids.length = gn at *
  generalize n.leaf = lf at *
  have HVR : Hid (∀ x : Nv, x.v ⟨rl, rcs, rks, rgs⟩ = .agg #[.bool rl, .slice x.ca rcs.length x.cc, .slice x.ka rks.length x.kc, .slice x.ga rgs.length x.gc]) := fun x => rfl
  go_enter Try.func41, Try.ntmps41
  go_wp2_with (first
    | ((with_reducible refine wpList_box_node (by rfl) (.tmp 0) (by rfl) (some 2) (by rfl) N (unhide HN) lf ca cn cc ka kn kc ga gn gc (by with_unfolding_all rfl) ?_); intro W0 HX0 HB0 HS0; simp only [Act.put, List.setIfInBounds_toArray, List.set_cons_zero, List.set_cons_succ])
    | ((with_reducible refine wpList_alloc_node (by rfl) (by rfl) (some 3) (by rfl) (N + 1) (unhide HS0).symm ?_); intro W1 HX1 HB1 HS1; simp only [Act.put, List.setIfInBounds_toArray, List.set_cons_zero, List.set_cons_succ]; have HBL : Hid (Below N u W1) := (unhide HB0).trans ((unhide HB1).mono (Nat.le_succ _)); obtain ⟨y0, y1, y2, y3⟩ := box4 (((unhide HB1).block N (Nat.lt_succ_self _)).trans (unhide HX0)); have c0 := unhide HX _ (unhide HBL))
    | fail)
  refine (unhide H1 _ (unhide HBL)).mono ?_
  rintro e W2 ⟨y, rfl, how, hb2⟩
  have HX2 := hide (box_below (unhide HX1) hb2)
  have HBL2 : Hid (Below N u W2) := (unhide HBL).trans (hb2.mono (by rw [unhide HS1]; omega))
  have HOW : Hid (Ow W2 N rcs rks rgs y) := ⟨own_down how.c (by rw [unhide HS1]; omega), own_down how.k (by rw [unhide HS1]; omega), own_down how.g (by rw [unhide HS1]; omega)⟩
  have HTK := hide (lTaken ⟨rl, rcs, rks, rgs⟩ y tb W2)
  rw [← unhide HTE, unhide HVR] at HTK
  rw [unhide HVR]
  clear how hb2 y0 y1 y2 y3 c0 HX0 HB0 HS0 HB1 HS1 HX1 HBL
  generalize hrc : rcs.length = rc at *
  generalize hrk : rks.length = rk at *
  generalize hrg : rgs.length = rg at *
  have HRL := hide (And.intro hrc (And.intro hrk hrg))
  clear hrc hrk hrg
  go_wp2_with fail
  refine (unhide HTK).mono ?_
  rintro e W2b ⟨rfl, hb2⟩
  have HX2b := hide (box_below (unhide HX2) hb2)
  have HOWb := hide ((unhide HOW).below hb2)
  have HBL2b : Hid (Below N u W2b) := (unhide HBL2).trans (hb2.mono (by have := (Array.getElem?_eq_some_iff.1 (unhide HX2)).1; omega))
  clear hb2
  go_wp2_with (first
    | ((with_reducible refine wpList_store_node (by rfl) (.tmp 3) (.tmp 11) (by rfl) (N + 1) rl y.ca rc y.cc y.ka rk y.kc y.ga rg y.gc (by with_unfolding_all rfl) (by with_unfolding_all rfl) (unhide HX2b) ?_); intro W3 HX3 HE3; simp only [Act.put])
    | fail)
  have HZ : Hid (Below N u W3 ∧ Ow W3 N rcs rks rgs y) := by
    rw [unhide HE3]
    refine ⟨belowRow (unhide HBL2b) (Nat.le_succ N) _, own_keep (unhide HOWb).c (fun g hg => heapRow_other _ _ _ _ ?_), own_keep (unhide HOWb).k (fun g hg => heapRow_other _ _ _ _ ?_), own_keep (unhide HOWb).g (fun g hg => heapRow_other _ _ _ _ ?_)⟩
    · exact not_node (unhide HOWb).c (by decide) (unhide HX2b) g hg
    · exact not_node (unhide HOWb).k (by decide) (unhide HX2b) g hg
    · exact not_node (unhide HOWb).g (by decide) (unhide HX2b) g hg
  go_wp2
  refine bodyPost_ret (results_cell_tmp rfl _ _ (N + 1) 26 #[.bool rl, .slice y.ca rc y.cc, .slice y.ka rk y.kc, .slice y.ga rg y.gc] (0, 0) _ rfl (unhide HX3) nodeUnd rfl nodeInfo) rfl ?_
  exact ⟨_, rfl, y, by first | (rw [unhide HVR]; done) | (rw [unhide HVR]; rfl), (unhide HZ).2, (unhide HZ).1⟩
theorem entP (F : FuncId) (h : (Try.prog.funcs[F]?).map (fun fn => (fn.name == "runtime.NumGoroutine", fn.body.isNone)) = some (false, false)) (args : Array Value) (w : World) : (callFunc F args).run Try.prog w = .ok (.enter F args) w := by
  cases hq : Try.prog.funcs[F]? with
  | none => simp [hq] at h
  | some fn =>
    simp only [hq, Option.map_some, Option.some.injEq, Prod.mk.injEq] at h
    have h1 : fn.name ≠ "runtime.NumGoroutine" := by simpa using h.1
    cases hb : fn.body with
    | none => simp [hb] at h
    | some b => simp [callFunc, hq, h1, hb]
theorem put_fine {n : Nd} {x : Nv} {v : World} (h : NdAt v n x) (key val : ByteArray) (hks : key.size ≤ 140737488355328) (hvs : val.size ≤ 140737488355328) : (n.ptR key val).Fine := by
  unfold Nd.ptR
  split
  · rename_i hx
    have hz := (Nd.refused_zero.1 hx.1).1.lens.1
    have ht := n.to_le key
    refine ⟨⟨?_, Nat.zero_le _, Nat.zero_le _⟩, fun k hk => (by cases hk), fun c hc => ?_⟩
    · simp only [Nd.put, List.length_append, List.length_take, List.length_cons, List.length_drop]
      omega
    · rcases List.mem_append.1 hc with hc | hc
      · exact h.str c (List.mem_of_mem_take hc)
      · rcases List.mem_cons.1 hc with rfl | hc
        · exact ⟨by show key.size ≤ _; omega, by show val.size ≤ _; omega⟩
        · exact h.str c (List.mem_of_mem_drop hc)
  · exact ⟨⟨Nat.zero_le _, Nat.zero_le _, Nat.zero_le _⟩, fun k hk => (by cases hk), fun c hc => (by cases hc)⟩
theorem take_fine {n : Nd} {x : Nv} {v : World} (h : NdAt v n x) (hf : n.Few) (key : ByteArray) : (n.tkR key).Fine := by
  unfold Nd.tkR
  split
  · have hz := hf.1
    refine ⟨⟨?_, Nat.zero_le _, Nat.zero_le _⟩, fun k hk => (by cases hk), fun c hc => ?_⟩
    · simp only [Nd.take, List.length_append, List.length_take, List.length_drop]
      omega
    · rcases List.mem_append.1 hc with hc | hc
      · exact h.str c (List.mem_of_mem_take hc)
      · exact h.str c (List.mem_of_mem_drop hc)
  · exact ⟨⟨Nat.zero_le _, Nat.zero_le _, Nat.zero_le _⟩, fun k hk => (by cases hk), fun c hc => (by cases hc)⟩
set_option maxRecDepth 100000 in
set_option maxHeartbeats 4000000 in
theorem puts8_walk (n : Nd) (a : Nv) (key val : ByteArray) (hks : key.size ≤ 140737488355328) (hvs : val.size ≤ 140737488355328) (u : World) (h : NdAt u n a) (hn : a.Nil) (hf : n.Few) : Calls Try.prog 6 #[a.v n, .string key, .string val] u fun e u' => e = .returned (.bool true) ∧ Below u.heap.size u u' := by
  have HP : Hid (∀ (v : World) (X Y : Nat), Below u.heap.size u v → v.cell? ⟨X, 0, none⟩ = some (.string key) → v.cell? ⟨Y, 0, none⟩ = some (.string val) → Calls Try.prog 33 #[a.v n, .func (.func 34) #[] #[.pointer (some ⟨X, 0, none⟩), .pointer (some ⟨Y, 0, none⟩)], .func (.func 36) #[] #[.pointer (some ⟨X, 0, none⟩), .pointer (some ⟨Y, 0, none⟩)]] v fun e u' => e = .returned (.bool true) ∧ Below v.heap.size v u') := fun v X Y hv hX hY =>
    lAgain n a v (h.below hv) hn hf _ _ _ _ (entP _ (by kernel_rfl)) (entP _ (by kernel_rfl)) (fun m => m.ptR key val) (fun m => m.ptE key val) (fun v m x hx _ => put_fine hx key val hks hvs)
      (fun w m x hw hx hm => aPut1 m x key val hks hvs X Y w hx hm ((hw.cell (World.block_lt_of_cell? v _ hX)).trans hX) ((hw.cell (World.block_lt_of_cell? v _ hY)).trans hY))
      (fun w m x hw hx hm => aPut2 m x key val hks hvs X Y w hx hm ((hw.cell (World.block_lt_of_cell? v _ hX)).trans hX) ((hw.cell (World.block_lt_of_cell? v _ hY)).trans hY))
  have HT : Hid (∀ (v : World) (X : Nat), Below u.heap.size u v → v.cell? ⟨X, 0, none⟩ = some (.string key) → Calls Try.prog 33 #[a.v n, .func (.func 38) #[] #[.pointer (some ⟨X, 0, none⟩)], .func (.func 41) #[] #[.pointer (some ⟨X, 0, none⟩)]] v fun e u' => e = .returned (.bool true) ∧ Below v.heap.size v u') := fun v X hv hX =>
    lAgain n a v (h.below hv) hn hf _ _ _ _ (entP _ (by kernel_rfl)) (entP _ (by kernel_rfl)) (fun m => m.tkR key) (fun m => m.tkE key) (fun v m x hx hm => take_fine hx hm key)
      (fun w m x hw hx hm => aTake1 m x key X w hx hm ((hw.cell (World.block_lt_of_cell? v _ hX)).trans hX))
      (fun w m x hw hx hm => aTake2 m x key X w hx hm ((hw.cell (World.block_lt_of_cell? v _ hX)).trans hX))
  obtain ⟨N, hN⟩ : ∃ N, N = u.heap.size := ⟨_, rfl⟩
  have HN := hide hN
  rw [← hN] at HP HT ⊢
  clear hN h hn hf hks hvs
  rw [Nv.v_eq] at HP HT ⊢
  obtain ⟨ca, cc, ka, kc, ga, gc⟩ := a
  generalize n.cells.length = cn at *
  generalize n.keys.length = kn at *
  generalize n.kids.length = gn at *
  generalize n.leaf = lf at *
  go_enter Try.func6, Try.ntmps6
  go_wp2_with (first
    | ((with_reducible refine wpList_box_node (by rfl) (.tmp 0) (by rfl) (some 3) (by rfl) N (unhide HN) lf ca cn cc ka kn kc ga gn gc (by with_unfolding_all rfl) ?_); intro W0 HX0 HB0 HS0; simp only [Act.put, List.setIfInBounds_toArray, List.set_cons_zero, List.set_cons_succ]; have HBX : Hid (Below (N + 1) W0 ((W0.alloc (.cells #[.string key] 9)).alloc (.cells #[.string val] 9))) := ((Below.refl (N + 1) W0).alloc (by rw [unhide HS0]; exact Nat.le_refl _) _).alloc (by simp; have := unhide HS0; omega) _; have HXB := hide (((unhide HBX).block N (Nat.lt_succ_self _)).trans (unhide HX0)); obtain ⟨y0, y1, y2, y3⟩ := box4 (unhide HXB))
    | fail)
  have hX : ((W0.alloc (.cells #[.string key] 9)).alloc (.cells #[.string val] 9)).cell? ⟨W0.heap.size, 0, none⟩ = some (.string key) := by simp [go_sem]
  have hY : ((W0.alloc (.cells #[.string key] 9)).alloc (.cells #[.string val] 9)).cell? ⟨W0.heap.size + 1, 0, none⟩ = some (.string val) := by simp [go_sem]
  have HBL : Hid (Below N u ((W0.alloc (.cells #[.string key] 9)).alloc (.cells #[.string val] 9))) := (unhide HB0).trans ((unhide HBX).mono (Nat.le_succ _))
  generalize (W0.alloc (.cells #[.string key] 9)).alloc (.cells #[.string val] 9) = W1 at *
  generalize W0.heap.size = X at *
  refine (unhide HP W1 _ _ (unhide HBL) hX hY).mono ?_
  rintro e W2 ⟨rfl, hb2⟩
  have HX2 := hide (box_below (unhide HXB) hb2)
  have HZ1 : Hid (N ≤ W1.heap.size) := Nat.le_of_lt (Array.getElem?_eq_some_iff.1 (unhide HXB)).1
  have HBL2 : Hid (Below N u W2) := (unhide HBL).trans (hb2.mono (unhide HZ1))
  have HT2 := hide (unhide HT W2 X (unhide HBL2) ((hb2.cell (World.block_lt_of_cell? W1 _ hX)).trans hX))
  clear hb2 hX hY y0 y1 y2 y3
  obtain ⟨y0, y1, y2, y3⟩ := box4 (unhide HX2)
  go_wp2_with fail
  refine (unhide HT2).mono ?_
  rintro e W3 ⟨rfl, hb3⟩
  have HBL3 : Hid (Below N u W3) := (unhide HBL2).trans (hb3.mono (by have := (Array.getElem?_eq_some_iff.1 (unhide HX2)).1; omega))
  clear hb3
  go_wp2
  go_ret
  exact ⟨rfl, unhide HBL3⟩
end
end Go.Proofs.Ytppmpomfihalfaa
