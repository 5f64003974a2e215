/- Nodes: again, the walk (written by mknsh.py). -/
import Derived.Test.YtppmpomfihalfaaNsg
namespace Go.Proofs.Ytppmpomfihalfaa
open Go.RowKit

theorem Nv.v_let (m : Nd) (x : Nv) (l : Bool) (c k g : Nat) (hl : l = m.leaf) (hc : c = m.cells.length) (hk : k = m.keys.length) (hg : g = m.kids.length) : x.v m = .agg #[.bool l, .slice x.ca c x.cc, .slice x.ka k x.kc, .slice x.ga g x.gc] := by subst hl hc hk hg; rfl
set_option maxRecDepth 100000 in
set_option maxHeartbeats 16000000 in
theorem lAgain (n : Nd) (a : Nv) (u : World) (h : NdAt u n a) (hn : a.Nil) (hf : n.Few) (F1 F2 : FuncId) (c1 c2 : Array Value)
    (he1 : ∀ args (w : World), (callFunc F1 args).run Try.prog w = .ok (.enter F1 args) w) (he2 : ∀ args (w : World), (callFunc F2 args).run Try.prog w = .ok (.enter F2 args) w)
    (rN : Nd → Nd) (eE : Nd → Int) (hfine : ∀ (v : World) (m : Nd) (x : Nv), NdAt v m x → m.Few → (rN m).Fine)
    (hask : ∀ (v : World) (m : Nd) (x : Nv), Below u.heap.size u v → NdAt v m x → m.Few → Calls Try.prog F1 (#[x.v m] ++ c1) v fun e w' => ∃ r, e = .returned r ∧ ∃ y : Nv, r = .tuple #[y.v (rN m), .int .i64 (eE m)] ∧ Ow w' v.heap.size (rN m).cells (rN m).keys (rN m).kids y ∧ Below v.heap.size v w')
    (hwant : ∀ (v : World) (m : Nd) (x : Nv), Below u.heap.size u v → NdAt v m x → m.Few → Calls Try.prog F2 (#[x.v m] ++ c2) v fun e w' => ∃ r, e = .returned r ∧ ∃ y : Nv, r = .tuple #[y.v (rN m), .int .i64 (eE m)] ∧ Ow w' v.heap.size (rN m).cells (rN m).keys (rN m).kids y ∧ Below v.heap.size v w') :
    Calls Try.prog 33 #[a.v n, .func (.func F1) #[] c1, .func (.func F2) #[] c2] u fun e u' => e = .returned (.bool true) ∧ Below u.heap.size u u' := by
  have H1 := hide (fun (v : World) (hv : Below u.heap.size u v) => lLent n a v (h.below hv) hn hf)
  have HA := hide h
  have HFI := hide hfine
  have HASK := hide hask
  have HWANT := hide hwant
  have HE1 := hide he1
  have HE2 := hide he2
  have HKE0 := hide (fun (v : World) (b : Nv) (B : Nat) (hv : NdAt v n a) (hl : Le v B n b) => lKeptF n a b B v hv hn hf hl)
  have HOV0 := hide (fun (v : World) (b : Nv) (B : Nat) (hl : Le v B n b) => lOver n b B v hl hf)
  have HF := hide hf
  have HNIL := hide hn
  obtain ⟨N, hN⟩ : ∃ N, N = u.heap.size := ⟨_, rfl⟩
  have HN := hide hN
  rw [← hN] at H1 HASK HWANT ⊢
  clear hN hn he1 he2 hask hwant hfine
  obtain ⟨ca, cc, ka, kc, ga, gc⟩ := a
  obtain ⟨nc, hnc⟩ : ∃ c, c = n.cells.length := ⟨_, rfl⟩
  obtain ⟨nk, hnk⟩ : ∃ c, c = n.keys.length := ⟨_, rfl⟩
  obtain ⟨ng, hng⟩ : ∃ c, c = n.kids.length := ⟨_, rfl⟩
  obtain ⟨nl, hnl⟩ : ∃ c, c = n.leaf := ⟨_, rfl⟩
  have HVN : Hid (∀ x : Nv, x.v n = .agg #[.bool nl, .slice x.ca nc x.cc, .slice x.ka nk x.kc, .slice x.ga ng x.gc]) := fun x => Nv.v_let n x nl nc nk ng hnl hnc hnk hng
  have HRF := hide (unhide HFI u n _ h hf)
  obtain ⟨R, hR⟩ : ∃ R, R = rN n := ⟨_, rfl⟩
  obtain ⟨E, hE⟩ : ∃ E, E = eE n := ⟨_, rfl⟩
  obtain ⟨rc, hrc⟩ : ∃ c, c = R.cells.length := ⟨_, rfl⟩
  obtain ⟨rk, hrk⟩ : ∃ c, c = R.keys.length := ⟨_, rfl⟩
  obtain ⟨rg, hrg⟩ : ∃ c, c = R.kids.length := ⟨_, rfl⟩
  obtain ⟨rl, hrl⟩ : ∃ c, c = R.leaf := ⟨_, rfl⟩
  have HVR : Hid (∀ x : Nv, x.v R = .agg #[.bool rl, .slice x.ca rc x.cc, .slice x.ka rk x.kc, .slice x.ga rg x.gc]) := fun x => Nv.v_let R x rl rc rk rg hrl hrc hrk hrg
  rw [← hR] at HRF
  have HWN : Hid (∀ v : World, Below N u v → NdAt v n ⟨ca, cc, ka, kc, ga, gc⟩ → Calls Try.prog F2 (#[.agg #[.bool nl, .slice ca nc cc, .slice ka nk kc, .slice ga ng gc]] ++ c2) v fun e w' => ∃ r, e = .returned r ∧ ∃ y : Nv, r = .tuple #[.agg #[.bool rl, .slice y.ca rc y.cc, .slice y.ka rk y.kc, .slice y.ga rg y.gc], .int .i64 E] ∧ Ow w' v.heap.size R.cells R.keys R.kids y ∧ Below v.heap.size v w') := fun v hv hx => by
    have := unhide HWANT v n _ hv hx (unhide HF)
    rw [unhide HVN, ← hR, ← hE] at this
    refine this.mono ?_
    rintro e w' ⟨r, rfl, y, rfl, h1, h2⟩
    exact ⟨_, rfl, y, by rw [unhide HVR], h1, h2⟩
  have HAN : Hid (∀ (v : World) (x : Nv), Below N u v → NdAt v n x → Calls Try.prog F1 (#[.agg #[.bool nl, .slice x.ca nc x.cc, .slice x.ka nk x.kc, .slice x.ga ng x.gc]] ++ c1) v fun e w' => ∃ r, e = .returned r ∧ ∃ y : Nv, r = .tuple #[.agg #[.bool rl, .slice y.ca rc y.cc, .slice y.ka rk y.kc, .slice y.ga rg y.gc], .int .i64 E] ∧ Ow w' v.heap.size R.cells R.keys R.kids y ∧ Below v.heap.size v w') := fun v x hv hx => by
    have := unhide HASK v n x hv hx (unhide HF)
    rw [unhide HVN, ← hR, ← hE] at this
    refine this.mono ?_
    rintro e w' ⟨r, rfl, y, rfl, h1, h2⟩
    exact ⟨_, rfl, y, by rw [unhide HVR], h1, h2⟩
  rw [unhide HVN] at H1
  rw [unhide HVN]
  have HLN := hide (And.intro hnl (And.intro hnc (And.intro hnk hng)))
  clear h hf hR hE hrc hrk hrg hrl hnc hnk hng hnl
  go_enter Try.func33, Try.ntmps33
  go_wp2_with (first
    | ((with_reducible refine wpList_box_node (by rfl) (.tmp 0) (by rfl) (some 3) (by rfl) N (unhide HN) nl ca nc cc ka nk kc ga ng gc (by with_unfolding_all rfl) ?_); intro W0 HX0 HB0 HS0; simp only [Act.put, List.setIfInBounds_toArray, List.set_cons_zero, List.set_cons_succ]; obtain ⟨y0, y1, y2, y3⟩ := box4 (unhide HX0))
    | fail)
  have HK0 : Hid (Kept u W0 N [(N, #[.bool nl, .slice ca nc cc, .slice ka nk kc, .slice ga ng gc])] []) := ⟨unhide HB0, by rw [unhide HS0]; exact Nat.le_succ _, fun p hp => by rcases List.mem_singleton.1 hp with rfl; exact unhide HX0, fun p hp => by cases hp⟩
  refine (unhide H1 W0 (unhide HB0)).mono ?_
  rintro e W1 ⟨b, rfl, hle, hb1⟩
  have HLE : Hid (Le W1 N n b) := ⟨hle.at_, own_down hle.own.c (by rw [unhide HS0]; exact Nat.le_succ _), own_down hle.own.k (by rw [unhide HS0]; exact Nat.le_succ _), own_down hle.own.g (by rw [unhide HS0]; exact Nat.le_succ _)⟩
  have HK1 := hide ((unhide HK0).below hb1)
  rw [unhide HVN b]
  clear hle hb1 y0 y1 y2 y3 HX0 HB0 HS0 HK0 H1
  obtain ⟨M, hM⟩ : ∃ M, M = W1.heap.size := ⟨_, rfl⟩
  have HM := hide hM
  clear hM
  have HLNE := hide (fun (m : Nd) (hm : m.leaf = n.leaf) (hl : m.cells.length = n.cells.length ∧ m.keys.length = n.keys.length ∧ m.kids.length = n.kids.length) => (show m.Few ∧ ∀ x : Nv, x.v m = .agg #[.bool nl, .slice x.ca nc x.cc, .slice x.ka nk x.kc, .slice x.ga ng x.gc] from ⟨⟨by rw [hl.1]; exact (unhide HF).1, by rw [hl.2.1]; exact (unhide HF).2.1, by rw [hl.2.2]; exact (unhide HF).2.2⟩, fun x => Nv.v_let m x nl nc nk ng ((unhide HLN).1.trans hm.symm) ((unhide HLN).2.1.trans hl.1.symm) ((unhide HLN).2.2.1.trans hl.2.1.symm) ((unhide HLN).2.2.2.trans hl.2.2.symm)⟩))
  go_wp2_with (first
    | ((with_reducible refine wpList_alloc_node (by rfl) (by rfl) (some 7) (by rfl) M (unhide HM) ?_); intro W2a HXa HBa HSa; simp only [Act.put, List.setIfInBounds_toArray, List.set_cons_zero, List.set_cons_succ])
    | ((with_reducible refine wpList_store_node (by rfl) (.tmp 7) (.tmp 20) (by rfl) M nl b.ca nc b.cc b.ka nk b.kc b.ga ng b.gc (by with_unfolding_all rfl) (by with_unfolding_all rfl) (unhide HXa) ?_); intro W2 HXb HEb; simp only [Act.put]; have HBb : Hid (Below W1.heap.size W1 W2) := (by rw [unhide HEb, ← unhide HM]; exact belowRow (unhide HBa) (Nat.le_refl _) _); have HK2 : Hid (Kept u W2 N [(M, #[.bool nl, .slice b.ca nc b.cc, .slice b.ka nk b.kc, .slice b.ga ng b.gc]), (N, #[.bool nl, .slice ca nc cc, .slice ka nk kc, .slice ga ng gc])] []) := ((unhide HK1).below (unhide HBb)).box (unhide HXb); have HLE2 := hide ((unhide HLE).below (unhide HBb)); have HFB : Hid (∀ g, b.blk g → N ≤ g ∧ g < W2.heap.size) := (fun g hg => ⟨((unhide HLE2).blk g hg).1, ((unhide HLE2).blk g hg).2.1⟩); obtain ⟨y0, y1, y2, y3⟩ := box4 ((unhide HK2).at_ (M := N) (b := #[.bool nl, .slice ca nc cc, .slice ka nk kc, .slice ga ng gc]) (by simp)); clear HXb HBb; clear HXa HBa HSa HEb)
    | (refine wpList_callv (by rfl) (.tmp 22) (.tmp 23) _ (by rfl) F2 c2 (by with_unfolding_all rfl) (.agg #[.bool nl, .slice ca nc cc, .slice ka nk kc, .slice ga ng gc]) (by with_unfolding_all rfl) (unhide HE2) (some 24) (by rfl) _ (unhide HWN W2 (unhide HK2).bel ((unhide HA).below (by rw [← unhide HN]; exact (unhide HK2).bel))) ?_; rintro _ W3 ⟨xa, rfl, hoa, hb3⟩; simp only [Act.put, List.setIfInBounds_toArray, List.set_cons_zero, List.set_cons_succ]; have HOA := hide hoa; have HB3 := hide hb3; have HK3 := hide ((unhide HK2).below hb3); have HLE3 := hide ((unhide HLE2).below hb3); clear hoa hb3 y0 y1 y2 y3; obtain ⟨M2, hM2⟩ : ∃ M2, M2 = W3.heap.size := ⟨_, rfl⟩; have HM2 := hide hM2; clear hM2)
    | ((with_reducible refine wpList_alloc_node (by rfl) (by rfl) (some 8) (by rfl) M2 (unhide HM2) ?_); intro W4a HXa HBa HSa; simp only [Act.put, List.setIfInBounds_toArray, List.set_cons_zero, List.set_cons_succ])
    | ((with_reducible refine wpList_store_node (by rfl) (.tmp 8) (.tmp 25) (by rfl) M2 rl xa.ca rc xa.cc xa.ka rk xa.kc xa.ga rg xa.gc (by with_unfolding_all rfl) (by with_unfolding_all rfl) (unhide HXa) ?_); intro W4 HXb HEb; simp only [Act.put]; have HBb : Hid (Below W3.heap.size W3 W4) := (by rw [unhide HEb, ← unhide HM2]; exact belowRow (unhide HBa) (Nat.le_refl _) _); have HK4 : Hid (Kept u W4 N [(M2, #[.bool rl, .slice xa.ca rc xa.cc, .slice xa.ka rk xa.kc, .slice xa.ga rg xa.gc]), (M, #[.bool nl, .slice b.ca nc b.cc, .slice b.ka nk b.kc, .slice b.ga ng b.gc]), (N, #[.bool nl, .slice ca nc cc, .slice ka nk kc, .slice ga ng gc])] [(R, xa)]) := (((unhide HK3).below (unhide HBb)).box (unhide HXb)).node (((unhide HOA).below (unhide HBb)).at' (unhide HRF)); have HLE4 := hide ((unhide HLE3).below (unhide HBb)); have HS12 : Hid (W2.heap.size ≤ W4.heap.size) := Nat.le_trans (unhide HB3).size (unhide HBb).size; have HFA : Hid (∀ g, xa.blk g → W2.heap.size ≤ g ∧ g < W4.heap.size) := (fun g hg => ⟨((unhide HOA).blk g hg).1.1, Nat.lt_of_lt_of_le ((unhide HOA).blk g hg).1.2 (unhide HBb).size⟩); obtain ⟨y0, y1, y2, y3⟩ := box4 ((unhide HK4).at_ (M := M) (b := #[.bool nl, .slice b.ca nc b.cc, .slice b.ka nk b.kc, .slice b.ga ng b.gc]) (by simp)); clear HXb HBb; clear HXa HBa HSa HEb)
    | (refine wpList_callv (by rfl) (.tmp 28) (.tmp 29) _ (by rfl) F1 c1 (by with_unfolding_all rfl) (.agg #[.bool nl, .slice b.ca nc b.cc, .slice b.ka nk b.kc, .slice b.ga ng b.gc]) (by with_unfolding_all rfl) (unhide HE1) (some 30) (by rfl) _ (unhide HAN W4 b (unhide HK4).bel (unhide HLE4).at_) ?_; rintro _ W5 ⟨xb, rfl, hob, hb5⟩; simp only [Act.put, List.setIfInBounds_toArray, List.set_cons_zero, List.set_cons_succ]; have HOB := hide hob; have HB5 := hide hb5; have HK5 := hide ((unhide HK4).below hb5); have HLE5 := hide ((unhide HLE4).below hb5); clear hob hb5 y0 y1 y2 y3; obtain ⟨M3, hM3⟩ : ∃ M3, M3 = W5.heap.size := ⟨_, rfl⟩; have HM3 := hide hM3; clear hM3)
    | ((with_reducible refine wpList_alloc_node (by rfl) (by rfl) (some 10) (by rfl) M3 (unhide HM3) ?_); intro W6a HXa HBa HSa; simp only [Act.put, List.setIfInBounds_toArray, List.set_cons_zero, List.set_cons_succ])
    | ((with_reducible refine wpList_store_node (by rfl) (.tmp 10) (.tmp 31) (by rfl) M3 rl xb.ca rc xb.cc xb.ka rk xb.kc xb.ga rg xb.gc (by with_unfolding_all rfl) (by with_unfolding_all rfl) (unhide HXa) ?_); intro W6 HXb HEb; simp only [Act.put]; have HBb : Hid (Below W5.heap.size W5 W6) := (by rw [unhide HEb, ← unhide HM3]; exact belowRow (unhide HBa) (Nat.le_refl _) _); have HK6 : Hid (Kept u W6 N [(M3, #[.bool rl, .slice xb.ca rc xb.cc, .slice xb.ka rk xb.kc, .slice xb.ga rg xb.gc]), (M2, #[.bool rl, .slice xa.ca rc xa.cc, .slice xa.ka rk xa.kc, .slice xa.ga rg xa.gc]), (M, #[.bool nl, .slice b.ca nc b.cc, .slice b.ka nk b.kc, .slice b.ga ng b.gc]), (N, #[.bool nl, .slice ca nc cc, .slice ka nk kc, .slice ga ng gc])] [(R, xa)]) := ((unhide HK5).below (unhide HBb)).box (unhide HXb); have HLE6 := hide ((unhide HLE5).below (unhide HBb)); have HOB6 := hide ((unhide HOB).below (unhide HBb)); obtain ⟨y0, y1, y2, y3⟩ := box4 ((unhide HK6).at_ (M := M3) (b := #[.bool rl, .slice xb.ca rc xb.cc, .slice xb.ka rk xb.kc, .slice xb.ga rg xb.gc]) (by simp)); obtain ⟨z0, z1, z2, z3⟩ := box4 ((unhide HK6).at_ (M := M2) (b := #[.bool rl, .slice xa.ca rc xa.cc, .slice xa.ka rk xa.kc, .slice xa.ga rg xa.gc]) (by simp)); clear HXb HBb; clear HXa HBa HSa HEb)
    | fail)
  have HS6 := hide (rSame R xb xa W6 ((unhide HOB6).at' (unhide HRF)) ((unhide HK6).nd_ (m := R) (x := xa) (by simp)))
  rw [unhide HVR, unhide HVR] at HS6
  refine (unhide HS6).mono ?_
  rintro e W7 ⟨rfl, hb7⟩
  have HK7 := hide ((unhide HK6).below hb7)
  have HLE7 := hide ((unhide HLE6).below hb7)
  have HOB7 := hide ((unhide HOB6).below hb7)
  clear hb7 HS6 y0 y1 y2 y3 z0 z1 z2 z3
  obtain ⟨y0, y1, y2, y3⟩ := box4 ((unhide HK7).at_ (M := M) (b := #[.bool nl, .slice b.ca nc b.cc, .slice b.ka nk b.kc, .slice b.ga ng b.gc]) (by simp))
  obtain ⟨z0, z1, z2, z3⟩ := box4 ((unhide HK7).at_ (M := N) (b := #[.bool nl, .slice ca nc cc, .slice ka nk kc, .slice ga ng gc]) (by simp))
  have HS7 := hide (unhide HKE0 W7 b N ((unhide HA).below (by rw [← unhide HN]; exact (unhide HK7).bel)) (unhide HLE7))
  rw [unhide HVN, unhide HVN] at HS7
  go_wp2_with fail
  refine (unhide HS7).mono ?_
  rintro e W8 ⟨_, rfl, rfl, hb8⟩
  have HK8 := hide ((unhide HK7).below hb8)
  have HLE8 := hide ((unhide HLE7).below hb8)
  have HOB8 := hide ((unhide HOB7).below hb8)
  clear hb8 HS7 y0 y1 y2 y3 z0 z1 z2 z3
  obtain ⟨y0, y1, y2, y3⟩ := box4 ((unhide HK8).at_ (M := M) (b := #[.bool nl, .slice b.ca nc b.cc, .slice b.ka nk b.kc, .slice b.ga ng b.gc]) (by simp))
  have HS8 := hide (unhide HOV0 W8 b N (unhide HLE8))
  rw [unhide HVN] at HS8
  go_wp2_with fail
  refine (unhide HS8).mono ?_
  rintro e W9 ⟨rfl, m, hml, hmn, hma, hup⟩
  have HMF := hide (unhide HLNE m hml hmn)
  have HDIS : Hid (∀ g, b.blk g → N ≤ g ∧ ∀ c fr, W8.heap[g]? ≠ some (.cells c 26 fr)) := fun g hg => ⟨((unhide HLE8).blk g hg).1, ((unhide HLE8).blk g hg).2.2⟩
  have HK9 := hide ((unhide HK8).upb hup (unhide HDIS) (fun p hp g hg hb => by
    rcases List.mem_singleton.1 hp with rfl
    have h1 := (unhide HFA g hg).1
    have h2 := (unhide HFB g hb)
    omega))
  have HOB9 := hide ((unhide HOB8).upb hup (fun g hg hb => by
    have h1 := ((unhide HOB8).blk g hg).1.1
    have h2 := (unhide HFB g hb)
    have h3 := unhide HS12
    omega))
  have HK9 := hide ((unhide HK9).node hma)
  have HNB := hide (unhide HLE8).nil
  clear hml hmn hma hup HS8 HLE8 HDIS HK8 HOB8 y0 y1 y2 y3
  obtain ⟨y0, y1, y2, y3⟩ := box4 ((unhide HK9).at_ (M := M3) (b := #[.bool rl, .slice xb.ca rc xb.cc, .slice xb.ka rk xb.kc, .slice xb.ga rg xb.gc]) (by simp))
  obtain ⟨z0, z1, z2, z3⟩ := box4 ((unhide HK9).at_ (M := M2) (b := #[.bool rl, .slice xa.ca rc xa.cc, .slice xa.ka rk xa.kc, .slice xa.ga rg xa.gc]) (by simp))
  have HS9 := hide (rSame R xb xa W9 ((unhide HOB9).at' (unhide HRF)) ((unhide HK9).nd_ (m := R) (x := xa) (by simp)))
  rw [unhide HVR, unhide HVR] at HS9
  go_wp2_with fail
  refine (unhide HS9).mono ?_
  rintro e V1 ⟨rfl, hb1⟩
  have HK10 := hide ((unhide HK9).below hb1)
  have HOB10 := hide ((unhide HOB9).below hb1)
  clear hb1 HS9 HK9 HOB9 y0 y1 y2 y3 z0 z1 z2 z3
  obtain ⟨y0, y1, y2, y3⟩ := box4 ((unhide HK10).at_ (M := M) (b := #[.bool nl, .slice b.ca nc b.cc, .slice b.ka nk b.kc, .slice b.ga ng b.gc]) (by simp))
  have HS10 := hide (lTwinO m b V1 ((unhide HK10).nd_ (m := m) (x := b) (by simp)) (unhide HNB) (by have h1 := (unhide HMF).1.1; have h2 := (unhide HMF).1.2.1; have h3 := (unhide HMF).1.2.2; omega))
  rw [(unhide HMF).2 b] at HS10
  go_wp2_with fail
  refine (unhide HS10).mono ?_
  rintro e V2 ⟨xc, rfl, hxc, hoc, hb2⟩
  have HK11 := hide (((unhide HK10).below hb2).node hxc)
  have HOB11 := hide ((unhide HOB10).below hb2)
  have HFC : Hid (∀ g, xc.blk g → V1.heap.size ≤ g) := fun g hg => (hoc.blk g hg).1.1
  have HBV1 : Hid (∀ g, xb.blk g → g < V1.heap.size) := fun g hg => ((unhide HOB10).blk g hg).1.2
  rw [(unhide HMF).2 xc]
  clear hxc hoc hb2 HS10 HK10 HOB10 y0 y1 y2 y3
  obtain ⟨M4, hM4⟩ : ∃ M4, M4 = V2.heap.size := ⟨_, rfl⟩
  have HM4 := hide hM4
  clear hM4
  go_wp2_with (first
    | ((with_reducible refine wpList_alloc_node (by rfl) (by rfl) (some 12) (by rfl) M4 (unhide HM4) ?_); intro V3a HXa HBa HSa; simp only [Act.put, List.setIfInBounds_toArray, List.set_cons_zero, List.set_cons_succ])
    | ((with_reducible refine wpList_store_node (by rfl) (.tmp 12) (.tmp 55) (by rfl) M4 nl xc.ca nc xc.cc xc.ka nk xc.kc xc.ga ng xc.gc (by with_unfolding_all rfl) (by with_unfolding_all rfl) (unhide HXa) ?_); intro V3 HXb HEb; simp only [Act.put]; have HBb : Hid (Below V2.heap.size V2 V3) := (by rw [unhide HEb, ← unhide HM4]; exact belowRow (unhide HBa) (Nat.le_refl _) _); have HK12 : Hid (Kept u V3 N [(M4, #[.bool nl, .slice xc.ca nc xc.cc, .slice xc.ka nk xc.kc, .slice xc.ga ng xc.gc]), (M3, #[.bool rl, .slice xb.ca rc xb.cc, .slice xb.ka rk xb.kc, .slice xb.ga rg xb.gc]), (M2, #[.bool rl, .slice xa.ca rc xa.cc, .slice xa.ka rk xa.kc, .slice xa.ga rg xa.gc]), (M, #[.bool nl, .slice b.ca nc b.cc, .slice b.ka nk b.kc, .slice b.ga ng b.gc]), (N, #[.bool nl, .slice ca nc cc, .slice ka nk kc, .slice ga ng gc])] [(m, xc), (m, b), (R, xa)]) := ((unhide HK11).below (unhide HBb)).box (unhide HXb); have HOB12 := hide ((unhide HOB11).below (unhide HBb)); obtain ⟨y0, y1, y2, y3⟩ := box4 ((unhide HK12).at_ (M := M3) (b := #[.bool rl, .slice xb.ca rc xb.cc, .slice xb.ka rk xb.kc, .slice xb.ga rg xb.gc]) (by simp)); clear HXb HBb; clear HXa HBa HSa HEb)
    | fail)
  -- spoil(b)
  have HS13 := hide (lSpoil R xb _ V3 (unhide HOB12) (unhide HRF).1 (unhide HRF).2.2 (unhide HRF).2.1)
  rw [unhide HVR] at HS13
  refine (unhide HS13).mono ?_
  rintro e V4 ⟨rfl, hup⟩
  have HK13 := hide ((unhide HK12).upb hup (fun g hg => ⟨Nat.le_trans (Nat.le_trans (unhide HK2).hN (unhide HS12)) ((unhide HOB12).blk g hg).1.1, ((unhide HOB12).blk g hg).2⟩) (fun p hp g hg hb => by
    have h1 := ((unhide HOB12).blk g hb).1.1
    have h2 := unhide HBV1 g hb
    have h4 := unhide HS12
    simp only [List.mem_cons, List.not_mem_nil, or_false] at hp
    rcases hp with rfl | rfl | rfl
    · have h3 := unhide HFC g hg
      omega
    · have h3 := (unhide HFB g hg).2
      omega
    · have h3 := (unhide HFA g hg).2
      omega))
  clear hup HS13 HOB12 HK12 y0 y1 y2 y3
  obtain ⟨y0, y1, y2, y3⟩ := box4 ((unhide HK13).at_ (M := M) (b := #[.bool nl, .slice b.ca nc b.cc, .slice b.ka nk b.kc, .slice b.ga ng b.gc]) (by simp))
  obtain ⟨z0, z1, z2, z3⟩ := box4 ((unhide HK13).at_ (M := M4) (b := #[.bool nl, .slice xc.ca nc xc.cc, .slice xc.ka nk xc.kc, .slice xc.ga ng xc.gc]) (by simp))
  have HS14 := hide (rSame m b xc V4 ((unhide HK13).nd_ (m := m) (x := b) (by simp)) ((unhide HK13).nd_ (m := m) (x := xc) (by simp)))
  rw [(unhide HMF).2 b, (unhide HMF).2 xc] at HS14
  go_wp2_with fail
  refine (unhide HS14).mono ?_
  rintro e V5 ⟨rfl, hb5⟩
  have HK14 := hide ((unhide HK13).below hb5)
  clear hb5 HS14 HK13 y0 y1 y2 y3 z0 z1 z2 z3
  -- want(changed), ask(in)
  have HRF2 := hide (unhide HFI V5 m xc ((unhide HK14).nd_ (m := m) (x := xc) (by simp)) (unhide HMF).1)
  obtain ⟨R2, hR2⟩ : ∃ R, R = rN m := ⟨_, rfl⟩
  obtain ⟨E2, hE2⟩ : ∃ E, E = eE m := ⟨_, rfl⟩
  obtain ⟨sc, hsc⟩ : ∃ c, c = R2.cells.length := ⟨_, rfl⟩
  obtain ⟨sk, hsk⟩ : ∃ c, c = R2.keys.length := ⟨_, rfl⟩
  obtain ⟨sg, hsg⟩ : ∃ c, c = R2.kids.length := ⟨_, rfl⟩
  obtain ⟨sl, hsl⟩ : ∃ c, c = R2.leaf := ⟨_, rfl⟩
  have HVS : Hid (∀ x : Nv, x.v R2 = .agg #[.bool sl, .slice x.ca sc x.cc, .slice x.ka sk x.kc, .slice x.ga sg x.gc]) := fun x => Nv.v_let R2 x sl sc sk sg hsl hsc hsk hsg
  rw [← hR2] at HRF2
  have HWM : Hid (∀ v : World, Below N u v → NdAt v m xc → Calls Try.prog F2 (#[.agg #[.bool nl, .slice xc.ca nc xc.cc, .slice xc.ka nk xc.kc, .slice xc.ga ng xc.gc]] ++ c2) v fun e w' => ∃ r, e = .returned r ∧ ∃ y : Nv, r = .tuple #[.agg #[.bool sl, .slice y.ca sc y.cc, .slice y.ka sk y.kc, .slice y.ga sg y.gc], .int .i64 E2] ∧ Ow w' v.heap.size R2.cells R2.keys R2.kids y ∧ Below v.heap.size v w') := fun v hv hx => by
    have := unhide HWANT v m _ hv hx (unhide HMF).1
    rw [(unhide HMF).2, ← hR2, ← hE2] at this
    refine this.mono ?_
    rintro e w' ⟨r, rfl, y, rfl, h1, h2⟩
    exact ⟨_, rfl, y, by rw [unhide HVS], h1, h2⟩
  have HAM : Hid (∀ v : World, Below N u v → NdAt v m b → Calls Try.prog F1 (#[.agg #[.bool nl, .slice b.ca nc b.cc, .slice b.ka nk b.kc, .slice b.ga ng b.gc]] ++ c1) v fun e w' => ∃ r, e = .returned r ∧ ∃ y : Nv, r = .tuple #[.agg #[.bool sl, .slice y.ca sc y.cc, .slice y.ka sk y.kc, .slice y.ga sg y.gc], .int .i64 E2] ∧ Ow w' v.heap.size R2.cells R2.keys R2.kids y ∧ Below v.heap.size v w') := fun v hv hx => by
    have := unhide HASK v m b hv hx (unhide HMF).1
    rw [(unhide HMF).2, ← hR2, ← hE2] at this
    refine this.mono ?_
    rintro e w' ⟨r, rfl, y, rfl, h1, h2⟩
    exact ⟨_, rfl, y, by rw [unhide HVS], h1, h2⟩
  clear hR2 hE2 hsc hsk hsg hsl
  obtain ⟨y0, y1, y2, y3⟩ := box4 ((unhide HK14).at_ (M := M4) (b := #[.bool nl, .slice xc.ca nc xc.cc, .slice xc.ka nk xc.kc, .slice xc.ga ng xc.gc]) (by simp))
  go_wp2_with (first
    | (refine wpList_callv (by rfl) (.tmp 63) (.tmp 64) _ (by rfl) F2 c2 (by with_unfolding_all rfl) (.agg #[.bool nl, .slice xc.ca nc xc.cc, .slice xc.ka nk xc.kc, .slice xc.ga ng xc.gc]) (by with_unfolding_all rfl) (unhide HE2) (some 65) (by rfl) _ (unhide HWM V5 (unhide HK14).bel ((unhide HK14).nd_ (m := m) (x := xc) (by simp))) ?_; rintro _ V6 ⟨xo, rfl, hoo, hb6⟩; simp only [Act.put, List.setIfInBounds_toArray, List.set_cons_zero, List.set_cons_succ]; have HK15 := hide (((unhide HK14).below hb6).node (hoo.at' (unhide HRF2))); clear hoo hb6 y0 y1 y2 y3; obtain ⟨M5, hM5⟩ : ∃ M5, M5 = V6.heap.size := ⟨_, rfl⟩; have HM5 := hide hM5; clear hM5)
    | ((with_reducible refine wpList_alloc_node (by rfl) (by rfl) (some 13) (by rfl) M5 (unhide HM5) ?_); intro V7a HXa HBa HSa; simp only [Act.put, List.setIfInBounds_toArray, List.set_cons_zero, List.set_cons_succ])
    | ((with_reducible refine wpList_store_node (by rfl) (.tmp 13) (.tmp 66) (by rfl) M5 sl xo.ca sc xo.cc xo.ka sk xo.kc xo.ga sg xo.gc (by with_unfolding_all rfl) (by with_unfolding_all rfl) (unhide HXa) ?_); intro V7 HXb HEb; simp only [Act.put]; have HBb : Hid (Below V6.heap.size V6 V7) := (by rw [unhide HEb, ← unhide HM5]; exact belowRow (unhide HBa) (Nat.le_refl _) _); have HK16 : Hid (Kept u V7 N [(M5, #[.bool sl, .slice xo.ca sc xo.cc, .slice xo.ka sk xo.kc, .slice xo.ga sg xo.gc]), (M4, #[.bool nl, .slice xc.ca nc xc.cc, .slice xc.ka nk xc.kc, .slice xc.ga ng xc.gc]), (M3, #[.bool rl, .slice xb.ca rc xb.cc, .slice xb.ka rk xb.kc, .slice xb.ga rg xb.gc]), (M2, #[.bool rl, .slice xa.ca rc xa.cc, .slice xa.ka rk xa.kc, .slice xa.ga rg xa.gc]), (M, #[.bool nl, .slice b.ca nc b.cc, .slice b.ka nk b.kc, .slice b.ga ng b.gc]), (N, #[.bool nl, .slice ca nc cc, .slice ka nk kc, .slice ga ng gc])] [(R2, xo), (m, xc), (m, b), (R, xa)]) := ((unhide HK15).below (unhide HBb)).box (unhide HXb); obtain ⟨y0, y1, y2, y3⟩ := box4 ((unhide HK16).at_ (M := M) (b := #[.bool nl, .slice b.ca nc b.cc, .slice b.ka nk b.kc, .slice b.ga ng b.gc]) (by simp)); clear HXb HBb; clear HXa HBa HSa HEb)
    | (refine wpList_callv (by rfl) (.tmp 69) (.tmp 70) _ (by rfl) F1 c1 (by with_unfolding_all rfl) (.agg #[.bool nl, .slice b.ca nc b.cc, .slice b.ka nk b.kc, .slice b.ga ng b.gc]) (by with_unfolding_all rfl) (unhide HE1) (some 71) (by rfl) _ (unhide HAM V7 (unhide HK16).bel ((unhide HK16).nd_ (m := m) (x := b) (by simp))) ?_; rintro _ V8 ⟨xm, rfl, hom, hb8⟩; simp only [Act.put, List.setIfInBounds_toArray, List.set_cons_zero, List.set_cons_succ]; have HK17 := hide (((unhide HK16).below hb8).node (hom.at' (unhide HRF2))); clear hom hb8 y0 y1 y2 y3; obtain ⟨M6, hM6⟩ : ∃ M6, M6 = V8.heap.size := ⟨_, rfl⟩; have HM6 := hide hM6; clear hM6)
    | ((with_reducible refine wpList_alloc_node (by rfl) (by rfl) (some 15) (by rfl) M6 (unhide HM6) ?_); intro V9a HXa HBa HSa; simp only [Act.put, List.setIfInBounds_toArray, List.set_cons_zero, List.set_cons_succ])
    | ((with_reducible refine wpList_store_node (by rfl) (.tmp 15) (.tmp 72) (by rfl) M6 sl xm.ca sc xm.cc xm.ka sk xm.kc xm.ga sg xm.gc (by with_unfolding_all rfl) (by with_unfolding_all rfl) (unhide HXa) ?_); intro V9 HXb HEb; simp only [Act.put]; have HBb : Hid (Below V8.heap.size V8 V9) := (by rw [unhide HEb, ← unhide HM6]; exact belowRow (unhide HBa) (Nat.le_refl _) _); have HK18 : Hid (Kept u V9 N [(M6, #[.bool sl, .slice xm.ca sc xm.cc, .slice xm.ka sk xm.kc, .slice xm.ga sg xm.gc]), (M5, #[.bool sl, .slice xo.ca sc xo.cc, .slice xo.ka sk xo.kc, .slice xo.ga sg xo.gc]), (M4, #[.bool nl, .slice xc.ca nc xc.cc, .slice xc.ka nk xc.kc, .slice xc.ga ng xc.gc]), (M3, #[.bool rl, .slice xb.ca rc xb.cc, .slice xb.ka rk xb.kc, .slice xb.ga rg xb.gc]), (M2, #[.bool rl, .slice xa.ca rc xa.cc, .slice xa.ka rk xa.kc, .slice xa.ga rg xa.gc]), (M, #[.bool nl, .slice b.ca nc b.cc, .slice b.ka nk b.kc, .slice b.ga ng b.gc]), (N, #[.bool nl, .slice ca nc cc, .slice ka nk kc, .slice ga ng gc])] [(R2, xm), (R2, xo), (m, xc), (m, b), (R, xa)]) := ((unhide HK17).below (unhide HBb)).box (unhide HXb); obtain ⟨y0, y1, y2, y3⟩ := box4 ((unhide HK18).at_ (M := M6) (b := #[.bool sl, .slice xm.ca sc xm.cc, .slice xm.ka sk xm.kc, .slice xm.ga sg xm.gc]) (by simp)); obtain ⟨z0, z1, z2, z3⟩ := box4 ((unhide HK18).at_ (M := M5) (b := #[.bool sl, .slice xo.ca sc xo.cc, .slice xo.ka sk xo.kc, .slice xo.ga sg xo.gc]) (by simp)); clear HXb HBb; clear HXa HBa HSa HEb)
    | fail)
  have HS18 := hide (rSame R2 xm xo V9 ((unhide HK18).nd_ (m := R2) (x := xm) (by simp)) ((unhide HK18).nd_ (m := R2) (x := xo) (by simp)))
  rw [unhide HVS, unhide HVS] at HS18
  refine (unhide HS18).mono ?_
  rintro e V10 ⟨rfl, hb10⟩
  have HK19 := hide ((unhide HK18).below hb10)
  clear hb10 HS18 y0 y1 y2 y3 z0 z1 z2 z3
  obtain ⟨y0, y1, y2, y3⟩ := box4 ((unhide HK19).at_ (M := N) (b := #[.bool nl, .slice ca nc cc, .slice ka nk kc, .slice ga ng gc]) (by simp))
  have HS19 := hide (lLent n ⟨ca, cc, ka, kc, ga, gc⟩ V10 ((unhide HA).below (by rw [← unhide HN]; exact (unhide HK19).bel)) (unhide HNIL) (unhide HF))
  rw [unhide HVN] at HS19
  go_wp2_with fail
  refine (unhide HS19).mono ?_
  rintro e V11 ⟨b9, rfl, hle9, hb11⟩
  have HK20 := hide ((unhide HK19).below hb11)
  have HL20 := hide hle9.at_
  rw [unhide HVN b9]
  clear hle9 hb11 HS19 y0 y1 y2 y3
  go_wp2_with (first
    | (refine wpList_callv (by rfl) (.tmp 84) (.tmp 86) _ (by rfl) F1 c1 (by with_unfolding_all rfl) (.agg #[.bool nl, .slice b9.ca nc b9.cc, .slice b9.ka nk b9.kc, .slice b9.ga ng b9.gc]) (by with_unfolding_all rfl) (unhide HE1) (some 87) (by rfl) _ (unhide HAN V11 b9 (unhide HK20).bel (unhide HL20)) ?_; rintro _ V12 ⟨xz, rfl, hoz, hb12⟩; simp only [Act.put, List.setIfInBounds_toArray, List.set_cons_zero, List.set_cons_succ]; have HK21 := hide (((unhide HK20).below hb12).node (hoz.at' (unhide HRF))); clear hoz hb12; obtain ⟨M7, hM7⟩ : ∃ M7, M7 = V12.heap.size := ⟨_, rfl⟩; have HM7 := hide hM7; clear hM7)
    | ((with_reducible refine wpList_alloc_node (by rfl) (by rfl) (some 17) (by rfl) M7 (unhide HM7) ?_); intro V13a HXa HBa HSa; simp only [Act.put, List.setIfInBounds_toArray, List.set_cons_zero, List.set_cons_succ])
    | ((with_reducible refine wpList_store_node (by rfl) (.tmp 17) (.tmp 88) (by rfl) M7 rl xz.ca rc xz.cc xz.ka rk xz.kc xz.ga rg xz.gc (by with_unfolding_all rfl) (by with_unfolding_all rfl) (unhide HXa) ?_); intro V13 HXb HEb; simp only [Act.put]; have HBb : Hid (Below V12.heap.size V12 V13) := (by rw [unhide HEb, ← unhide HM7]; exact belowRow (unhide HBa) (Nat.le_refl _) _); have HK22 : Hid (Kept u V13 N [(M7, #[.bool rl, .slice xz.ca rc xz.cc, .slice xz.ka rk xz.kc, .slice xz.ga rg xz.gc]), (M6, #[.bool sl, .slice xm.ca sc xm.cc, .slice xm.ka sk xm.kc, .slice xm.ga sg xm.gc]), (M5, #[.bool sl, .slice xo.ca sc xo.cc, .slice xo.ka sk xo.kc, .slice xo.ga sg xo.gc]), (M4, #[.bool nl, .slice xc.ca nc xc.cc, .slice xc.ka nk xc.kc, .slice xc.ga ng xc.gc]), (M3, #[.bool rl, .slice xb.ca rc xb.cc, .slice xb.ka rk xb.kc, .slice xb.ga rg xb.gc]), (M2, #[.bool rl, .slice xa.ca rc xa.cc, .slice xa.ka rk xa.kc, .slice xa.ga rg xa.gc]), (M, #[.bool nl, .slice b.ca nc b.cc, .slice b.ka nk b.kc, .slice b.ga ng b.gc]), (N, #[.bool nl, .slice ca nc cc, .slice ka nk kc, .slice ga ng gc])] [(R, xz), (R2, xm), (R2, xo), (m, xc), (m, b), (R, xa)]) := ((unhide HK21).below (unhide HBb)).box (unhide HXb); obtain ⟨y0, y1, y2, y3⟩ := box4 ((unhide HK22).at_ (M := M7) (b := #[.bool rl, .slice xz.ca rc xz.cc, .slice xz.ka rk xz.kc, .slice xz.ga rg xz.gc]) (by simp)); obtain ⟨z0, z1, z2, z3⟩ := box4 ((unhide HK22).at_ (M := M2) (b := #[.bool rl, .slice xa.ca rc xa.cc, .slice xa.ka rk xa.kc, .slice xa.ga rg xa.gc]) (by simp)); clear HXb HBb; clear HXa HBa HSa HEb)
    | fail)
  have HS22 := hide (rSame R xz xa V13 ((unhide HK22).nd_ (m := R) (x := xz) (by simp)) ((unhide HK22).nd_ (m := R) (x := xa) (by simp)))
  rw [unhide HVR, unhide HVR] at HS22
  refine (unhide HS22).mono ?_
  rintro e V14 ⟨rfl, hb14⟩
  have HK23 := hide ((unhide HK22).below hb14)
  clear hb14 HS22
  go_wp2
  go_ret
  exact ⟨rfl, (unhide HK23).bel⟩
end Go.Proofs.Ytppmpomfihalfaa
