/- Nodes: the walk of NodeFinds (written by mknrz.py). -/
import Derived.Test.YtppmpomfihalfaaNrx
import Derived.Test.YtppmpomfihalfaaNry
namespace Go.Proofs.Ytppmpomfihalfaa
open Go.RowKit

theorem entKd : ∀ args (w : World), (callFunc 31 args).run Try.prog w = .ok (.enter 31 args) w := by
  intro args w
  go_simp
theorem entRk : ∀ args (w : World), (callFunc 32 args).run Try.prog w = .ok (.enter 32 args) w := by
  intro args w
  go_simp
theorem entKe : ∀ args (w : World), (callFunc 22 args).run Try.prog w = .ok (.enter 22 args) w := by
  intro args w
  go_simp
theorem Le.below {w w' : World} {B : Nat} {n : Nd} {b : Nv} (h : Le w B n b) (hb : Below w.heap.size w w') : Le w' B n b :=
  ⟨h.at_.below hb, own_keep h.own.c (fun g hg => hb.block g (h.own.c.lt g hg).2), own_keep h.own.k (fun g hg => hb.block g (h.own.k.lt g hg).2), own_keep h.own.g (fun g hg => hb.block g (h.own.g.lt g hg).2)⟩
/-- a node that was lent, in its box, beside the one that came in -/
structure Fs (u w : World) (N M : Nat) (n : Nd) (a b : Nv) (bn bi : Array Value) : Prop where
  bel : Below N u w
  hN : N ≤ w.heap.size
  box : w.heap[N]? = some (.cells bn 26 (0, 0))
  inn : w.heap[M]? = some (.cells bi 26 (0, 0))
  at_ : NdAt w n a
  le : Le w N n b
theorem Fs.below {u w w' : World} {N M : Nat} {n : Nd} {a b : Nv} {bn bi : Array Value} (h : Fs u w N M n a b bn bi) (hb : Below w.heap.size w w') : Fs u w' N M n a b bn bi :=
  ⟨h.bel.trans (hb.mono h.hN), Nat.le_trans h.hN hb.size, box_below h.box hb, box_below h.inn hb, h.at_.below hb, h.le.below hb⟩
/-- behind over: the same lists, with something else in them, and a twin -/
structure Fo (u w : World) (N M M2 : Nat) (m : Nd) (b c : Nv) (bi bc : Array Value) : Prop where
  bel : Below N u w
  hN : N ≤ w.heap.size
  inn : w.heap[M]? = some (.cells bi 26 (0, 0))
  now : w.heap[M2]? = some (.cells bc 26 (0, 0))
  at_ : NdAt w m b
  tw : NdAt w m c
theorem Fo.below {u w w' : World} {N M M2 : Nat} {m : Nd} {b c : Nv} {bi bc : Array Value} (h : Fo u w N M M2 m b c bi bc) (hb : Below w.heap.size w w') : Fo u w' N M M2 m b c bi bc :=
  ⟨h.bel.trans (hb.mono h.hN), Nat.le_trans h.hN hb.size, box_below h.inn hb, box_below h.now hb, h.at_.below hb, h.tw.below hb⟩
theorem Le.blk {w : World} {B : Nat} {n : Nd} {b : Nv} (h : Le w B n b) : ∀ x, b.blk x → B ≤ x ∧ x < w.heap.size ∧ ∀ cs fr, w.heap[x]? ≠ some (.cells cs 26 fr) := by
  obtain ⟨⟨_, g1, hg1⟩, ⟨_, g2, hg2⟩, ⟨_, g3, hg3⟩, _⟩ := h.pos
  intro x hx
  rcases hx with ⟨o, e⟩ | ⟨o, e⟩ | ⟨o, e⟩
  · rw [hg1] at e; cases e
    have ho : (Value.slice b.ca (wC n.cells 40).length b.cc).ownBlock = some g1 := by rw [hg1]; rfl
    exact ⟨(h.own.c.lt g1 ho).1, (h.own.c.lt g1 ho).2, fun cs fr hx => not_node h.own.c (by decide) hx g1 ho rfl⟩
  · rw [hg2] at e; cases e
    have ho : (Value.slice b.ka (wK n.keys 40).length b.kc).ownBlock = some g2 := by rw [hg2]; rfl
    exact ⟨(h.own.k.lt g2 ho).1, (h.own.k.lt g2 ho).2, fun cs fr hx => not_node h.own.k (by decide) hx g2 ho rfl⟩
  · rw [hg3] at e; cases e
    have ho : (Value.slice b.ga (wG n.kids 40).length b.gc).ownBlock = some g3 := by rw [hg3]; rfl
    exact ⟨(h.own.g.lt g3 ho).1, (h.own.g.lt g3 ho).2, fun cs fr hx => not_node h.own.g (by decide) hx g3 ho rfl⟩
theorem Upb.node {w w' : World} {B : Nat} {n : Nd} {b : Nv} (h : Upb w w' b) (hl : Le w B n b) {M : Nat} {cs : Array Value} {fr : Nat × Nat} (hM : w.heap[M]? = some (.cells cs 26 fr)) : w'.heap[M]? = some (.cells cs 26 fr) :=
  (h.block M (Array.getElem?_eq_some_iff.1 hM).1 (fun hb => (hl.blk M hb).2.2 cs fr hM)).trans hM
theorem Le.nil {w : World} {B : Nat} {n : Nd} {b : Nv} (h : Le w B n b) : b.Nil := by
  obtain ⟨⟨_, g1, hg1⟩, ⟨_, g2, hg2⟩, ⟨_, g3, hg3⟩, _⟩ := h.pos
  exact ⟨(fun e => by rw [hg1] at e; cases e), (fun e => by rw [hg2] at e; cases e), (fun e => by rw [hg3] at e; cases e)⟩
open Classical in
/-- what Find answers -/
noncomputable def Nd.fat (n : Nd) (key : ByteArray) : Int × Bool := if n.refused true = 0 then ((plc n.cells key : Int), n.found key) else (0, false)
open Classical in
/-- what Kid answers -/
noncomputable def Nd.kat (n : Nd) (key : ByteArray) : Int := if n.refused false = 0 then (kplc n.keys key : Int) else -1
theorem nFindF (n : Nd) (a : Nv) (key : ByteArray) (u : World) (h : NdAt u n a) : Calls Try.prog 30 #[a.v n, .string key] u fun e u' => e = .returned (.tuple #[.int .i64 (n.fat key).1, .bool (n.fat key).2]) ∧ Below u.heap.size u u' := by
  refine (nFind n a key u h).mono fun e w' hh => ⟨?_, hh.2.2⟩
  unfold Nd.fat
  split
  · exact hh.1 ‹_›
  · exact hh.2.1 ‹_›
theorem Nd.Few.sum {n : Nd} (h : n.Few) (hk : n.Kind) : n.cells.length + n.keys.length ≤ 8796093022208 := by
  have h1 := h.1
  have h2 := h.2.1
  unfold Nd.Kind at hk
  split at hk
  · omega
  · omega
theorem rFindF (n : Nd) (a : Nv) (key : ByteArray) (u : World) (h : NdAt u n a) (hb : n.Few) : Calls Try.prog 29 #[a.v n, .string key] u fun e u' => e = .returned (.tuple #[.int .i64 (n.fat key).1, .bool (n.fat key).2]) ∧ Below u.heap.size u u' := by
  refine (rFind n a key u h hb.sum).mono fun e w' hh => ⟨?_, hh.2.2⟩
  unfold Nd.fat
  split
  · exact hh.1 ‹_›
  · exact hh.2.1 ‹_›
theorem nKidF (n : Nd) (a : Nv) (key : ByteArray) (u : World) (h : NdAt u n a) : Calls Try.prog 31 #[a.v n, .string key] u fun e u' => ∃ v, e = .returned v ∧ v = .int .i64 (n.kat key) ∧ Below u.heap.size u u' := by
  refine (nKid n a key u h).mono fun e w' hh => ⟨_, ?_, rfl, hh.2.2⟩
  unfold Nd.kat
  split
  · exact hh.1 ‹_›
  · exact hh.2.1 ‹_›
theorem rKidF (n : Nd) (a : Nv) (key : ByteArray) (u : World) (h : NdAt u n a) (hb : n.Few) : Calls Try.prog 32 #[a.v n, .string key] u fun e u' => ∃ v, e = .returned v ∧ v = .int .i64 (n.kat key) ∧ Below u.heap.size u u' := by
  refine (rKid n a key u h hb.sum).mono fun e w' hh => ⟨_, ?_, rfl, hh.2.2⟩
  unfold Nd.kat
  split
  · exact hh.1 ‹_›
  · exact hh.2.1 ‹_›
theorem lKeptF (n : Nd) (a b : Nv) (B : Nat) (u : World) (h : NdAt u n a) (hn : a.Nil) (hb : n.Few) (hl : Le u B n b) : Calls Try.prog 22 #[b.v n, a.v n] u fun e u' => ∃ v, e = .returned v ∧ v = .bool true ∧ Below u.heap.size u u' :=
  (lKept n a b B u h hn hb hl).mono fun _ _ hh => ⟨_, hh.1, rfl, hh.2⟩
set_option maxRecDepth 100000 in
set_option maxHeartbeats 8000000 in
theorem finds8_walk (n : Nd) (a : Nv) (key : ByteArray) (u : World) (h : NdAt u n a) (hn : a.Nil) (hf : n.Few) : Calls Try.prog 5 #[a.v n, .string key] u fun e u' => e = .returned (.bool true) ∧ Below u.heap.size u u' := by
  have H1 := hide (fun (v : World) (hv : Below u.heap.size u v) => lLent n a v (h.below hv) hn hf)
  have HRF := hide (fun (v : World) (hv : Below u.heap.size u v) => rFindF n a key v (h.below hv) hf)
  have HNF := hide (fun (v : World) (b : Nv) (hv : NdAt v n b) => nFindF n b key v hv)
  have HA := hide h
  have HKP0 := hide (fun (v : World) (b : Nv) (hv : NdAt v n b) => nKidF n b key v hv)
  have HKD0 := hide (fun (v : World) (hv : NdAt v n a) => rKidF n a key v hv hf)
  have HKE0 := hide (fun (v : World) (b : Nv) (B : Nat) (hv : NdAt v n a) (hl : Le v B n b) => lKeptF n a b B v hv hn hf hl)
  have HOV0 := hide (fun (v : World) (b : Nv) (B : Nat) (hl : Le v B n b) => lOver n b B v hl hf)
  have HF := hide hf
  have HM2 := hide (fun (m : Nd) (hm : m.leaf = n.leaf ∧ m.cells.length = n.cells.length ∧ m.keys.length = n.keys.length ∧ m.kids.length = n.kids.length) => (show m.Few from ⟨by rw [hm.2.1]; exact hf.1, by rw [hm.2.2.1]; exact hf.2.1, by rw [hm.2.2.2]; exact hf.2.2⟩))
  have HV : Hid (∀ (m : Nd) (b : Nv), m.leaf = n.leaf ∧ m.cells.length = n.cells.length ∧ m.keys.length = n.keys.length ∧ m.kids.length = n.kids.length → b.v m = .agg #[.bool n.leaf, .slice b.ca n.cells.length b.cc, .slice b.ka n.keys.length b.kc, .slice b.ga n.kids.length b.gc]) := fun m b hm => by rw [Nv.v_eq, hm.1, hm.2.1, hm.2.2.1, hm.2.2.2]
  obtain ⟨N, hN⟩ : ∃ N, N = u.heap.size := ⟨_, rfl⟩
  have HN := hide hN
  rw [← hN] at H1 HRF ⊢
  clear hN h hn hf
  obtain ⟨ca, cc, ka, kc, ga, gc⟩ := a
  have hav := unhide HV n ⟨ca, cc, ka, kc, ga, gc⟩ ⟨rfl, rfl, rfl, rfl⟩
  rw [hav] at H1 HRF HKD0 ⊢
  clear hav
  obtain ⟨X, hX⟩ : ∃ X, X = (n.fat key).1 := ⟨_, rfl⟩
  obtain ⟨Y, hY⟩ : ∃ Y, Y = (n.fat key).2 := ⟨_, rfl⟩
  rw [← hX, ← hY] at HRF HNF
  clear hX hY
  generalize n.kat key = Z at *
  obtain ⟨cn, hcn⟩ : ∃ cn, cn = n.cells.length := ⟨_, rfl⟩
  obtain ⟨kn, hkn⟩ : ∃ kn, kn = n.keys.length := ⟨_, rfl⟩
  obtain ⟨gn, hgn⟩ : ∃ gn, gn = n.kids.length := ⟨_, rfl⟩
  obtain ⟨lf, hlf⟩ : ∃ lf, lf = n.leaf := ⟨_, rfl⟩
  rw [← hcn, ← hkn, ← hgn, ← hlf] at H1 HRF HKD0 HV HM2 HOV0 ⊢
  have HCN := hide hcn
  have HKN := hide hkn
  have HGN := hide hgn
  have HLF := hide hlf
  clear hcn hkn hgn hlf
  go_enter Try.func5, Try.ntmps5
  go_wp2_with (first
    | ((with_reducible refine wpList_box_node (by rfl) (.tmp 0) (by rfl) (some 2) (by rfl) N (unhide HN) lf ca cn cc ka kn kc ga gn gc (by with_unfolding_all rfl) ?_); intro W0 HX0 HB0 HS0; simp only [Act.put, List.setIfInBounds_toArray, List.set_cons_zero, List.set_cons_succ]; obtain ⟨y0, y1, y2, y3⟩ := box4 (unhide HX0))
    | fail)
  refine (unhide H1 W0 (unhide HB0)).mono ?_
  rintro e W1 ⟨b, rfl, hle, hb1⟩
  have HLE := hide hle
  have HBB := hide hb1
  have HX1 := hide (box_below (unhide HX0) hb1)
  have hbv := unhide HV n b ⟨unhide HLF ▸ rfl, unhide HCN ▸ rfl, unhide HKN ▸ rfl, unhide HGN ▸ rfl⟩
  rw [hbv]
  clear hle hb1 y0 y1 y2 y3
  obtain ⟨M, hM⟩ : ∃ M, M = W1.heap.size := ⟨_, rfl⟩
  have HM := hide hM
  clear hM
  go_wp2_with (first
    | ((with_reducible refine wpList_alloc_node (by rfl) (by rfl) (some 5) (by rfl) M (unhide HM) ?_); intro W3 HX3 HB3 HS3; simp only [Act.put, List.setIfInBounds_toArray, List.set_cons_zero, List.set_cons_succ])
    | ((with_reducible refine wpList_store_node (by rfl) (.tmp 5) (.tmp 12) (by rfl) M lf b.ca cn b.cc b.ka kn b.kc b.ga gn b.gc (by with_unfolding_all rfl) (by with_unfolding_all rfl) (unhide HX3) ?_); intro W4 HX4 HE4; simp only [Act.put]; have HB4 : Hid (Below W1.heap.size W1 W4) := (by rw [unhide HE4, ← unhide HM]; exact belowRow (unhide HB3) (Nat.le_refl _) _); have HX4b := hide (box_below (unhide HX1) (unhide HB4)); obtain ⟨y0, y1, y2, y3⟩ := box4 (unhide HX4b))
    | fail)
  have HS4 : Hid (Fs u W4 N M n ⟨ca, cc, ka, kc, ga, gc⟩ b #[.bool lf, .slice ca cn cc, .slice ka kn kc, .slice ga gn gc] #[.bool lf, .slice b.ca cn b.cc, .slice b.ka kn b.kc, .slice b.ga gn b.gc]) := by
    have hs0 := unhide HS0
    have hbu : Below N u W4 := (unhide HB0).trans (((unhide HBB).mono (by omega)).trans ((unhide HB4).mono (by have := (unhide HBB).size; omega)))
    refine ⟨hbu, ?_, unhide HX4b, unhide HX4, (unhide HA).below (by rw [← unhide HN]; exact hbu), ?_⟩
    · have := (Array.getElem?_eq_some_iff.1 (unhide HX4b)).1; omega
    · have h1 := (unhide HLE).below (unhide HB4)
      rw [hs0] at h1
      exact ⟨h1.at_, own_down h1.own.c (by omega), own_down h1.own.k (by omega), own_down h1.own.g (by omega)⟩
  clear HX3 HB3 HS3 HX4 HE4 HB4 HX4b HX1 HBB HLE HX0 HB0 HS0 H1 HM
  refine (unhide HRF W4 (unhide HS4).bel).mono ?_
  rintro e V1 ⟨rfl, hb1⟩
  have HS5 := hide ((unhide HS4).below hb1)
  clear hb1 HS4 y0 y1 y2 y3 HRF
  obtain ⟨y0, y1, y2, y3⟩ := box4 (unhide HS5).inn
  have HC5 := hide (unhide HNF V1 b (unhide HS5).le.at_)
  rw [hbv] at HC5
  go_wp2_with fail
  refine (unhide HC5).mono ?_
  rintro e V2 ⟨rfl, hb2⟩
  have HS6 := hide ((unhide HS5).below hb2)
  clear hb2 HS5 y0 y1 y2 y3 HC5 HNF
  have HKP : Hid (∀ v : World, Fs u v N M n ⟨ca, cc, ka, kc, ga, gc⟩ b #[.bool lf, .slice ca cn cc, .slice ka kn kc, .slice ga gn gc] #[.bool lf, .slice b.ca cn b.cc, .slice b.ka kn b.kc, .slice b.ga gn b.gc] → Calls Try.prog 31 #[.agg #[.bool lf, .slice b.ca cn b.cc, .slice b.ka kn b.kc, .slice b.ga gn b.gc], .string key] v fun e u' => ∃ r, e = .returned r ∧ r = .int .i64 Z ∧ Below v.heap.size v u') := fun v hv => by
    have := unhide HKP0 v b hv.le.at_
    rwa [hbv] at this
  have HKD : Hid (∀ v : World, Fs u v N M n ⟨ca, cc, ka, kc, ga, gc⟩ b #[.bool lf, .slice ca cn cc, .slice ka kn kc, .slice ga gn gc] #[.bool lf, .slice b.ca cn b.cc, .slice b.ka kn b.kc, .slice b.ga gn b.gc] → Calls Try.prog 32 #[.agg #[.bool lf, .slice ca cn cc, .slice ka kn kc, .slice ga gn gc], .string key] v fun e u' => ∃ r, e = .returned r ∧ r = .int .i64 Z ∧ Below v.heap.size v u') := fun v hv => unhide HKD0 v hv.at_
  have HKE : Hid (∀ v : World, Fs u v N M n ⟨ca, cc, ka, kc, ga, gc⟩ b #[.bool lf, .slice ca cn cc, .slice ka kn kc, .slice ga gn gc] #[.bool lf, .slice b.ca cn b.cc, .slice b.ka kn b.kc, .slice b.ga gn b.gc] → Calls Try.prog 22 #[.agg #[.bool lf, .slice b.ca cn b.cc, .slice b.ka kn b.kc, .slice b.ga gn b.gc], .agg #[.bool lf, .slice ca cn cc, .slice ka kn kc, .slice ga gn gc]] v fun e u' => ∃ r, e = .returned r ∧ r = .bool true ∧ Below v.heap.size v u') := fun v hv => by
    have h1 := unhide HKE0 v b N hv.at_ hv.le
    have hav := unhide HV n ⟨ca, cc, ka, kc, ga, gc⟩ ⟨unhide HLF ▸ rfl, unhide HCN ▸ rfl, unhide HKN ▸ rfl, unhide HGN ▸ rfl⟩
    rwa [hbv, hav] at h1
  go_wp2_with fail
  have hmix : Try.prog.follows .mixedOrders = true := by kernel_rfl
  refine wp_region_last (fun W => Fs u W N M n ⟨ca, cc, ka, kc, ga, gc⟩ b #[.bool lf, .slice ca cn cc, .slice ka kn kc, .slice ga gn gc] #[.bool lf, .slice b.ca cn b.cc, .slice b.ka kn b.kc, .slice b.ga gn b.gc]) 22 hmix ((unhide HS6).below (belowDrewN (Below.refl _ _) 1)) fun hS => ?_
  refine wpAnyL_take 0 25 (.int .i64 X) [2, 3, 8, 14, 17] rfl rfl (by kernel_rfl) (by kernel_rfl) (by kernel_rfl) (by kernel_rfl) (by kernel_rfl) (fun _ _ _ h => h) (by rfl) (fun u _ => by go_simp) hS ?_
  simp only [Act.put, List.setIfInBounds_toArray, List.set_cons_zero, List.set_cons_succ]
  refine wpAnyL_take 1 26 (.int .i64 X) [2, 3, 8, 14, 17] rfl rfl (by kernel_rfl) (by kernel_rfl) (by kernel_rfl) (by kernel_rfl) (by kernel_rfl) (fun _ _ _ h => h) (by rfl) (fun u _ => by go_simp) hS ?_
  simp only [Act.put, List.setIfInBounds_toArray, List.set_cons_zero, List.set_cons_succ]
  refine wpAnyL_take 2 27 (.bool false) [3, 8, 14, 17] rfl rfl (by kernel_rfl) (by kernel_rfl) (by kernel_rfl) (by kernel_rfl) (by kernel_rfl) (fun _ _ _ h => h) (by rfl) (fun u _ => by go_simp) hS ?_
  simp only [Act.put, List.setIfInBounds_toArray, List.set_cons_zero, List.set_cons_succ]
  refine wpAnyL_take 3 28 (.bool false) [8, 14, 17] rfl rfl (by kernel_rfl) (by kernel_rfl) (by kernel_rfl) (by kernel_rfl) (by kernel_rfl) (fun _ _ _ h => h) (by rfl) (fun u _ => by go_simp) hS ?_
  simp only [Act.put, List.setIfInBounds_toArray, List.set_cons_zero, List.set_cons_succ]
  refine wpAnyL_take 4 29 (.bool Y) [6, 7, 8, 14, 17] rfl rfl (by kernel_rfl) (by kernel_rfl) (by kernel_rfl) (by kernel_rfl) (by kernel_rfl) (fun _ _ _ h => h) (by rfl) (fun u _ => by go_simp) hS ?_
  simp only [Act.put, List.setIfInBounds_toArray, List.set_cons_zero, List.set_cons_succ]
  refine wpAnyL_take 5 30 (.bool Y) [6, 7, 8, 14, 17] rfl rfl (by kernel_rfl) (by kernel_rfl) (by kernel_rfl) (by kernel_rfl) (by kernel_rfl) (fun _ _ _ h => h) (by rfl) (fun u _ => by go_simp) hS ?_
  simp only [Act.put, List.setIfInBounds_toArray, List.set_cons_zero, List.set_cons_succ]
  refine wpAnyL_take 6 31 (.bool false) [7, 8, 14, 17] rfl rfl (by kernel_rfl) (by kernel_rfl) (by kernel_rfl) (by kernel_rfl) (by kernel_rfl) (fun _ _ _ h => h) (by rfl) (fun W hW => by cases Y <;> go_simp) hS ?_
  simp only [Act.put, List.setIfInBounds_toArray, List.set_cons_zero, List.set_cons_succ]
  refine wpAnyL_take 7 32 (.bool false) [8, 14, 17] rfl rfl (by kernel_rfl) (by kernel_rfl) (by kernel_rfl) (by kernel_rfl) (by kernel_rfl) (fun _ _ _ h => h) (by rfl) (fun u _ => by go_simp) hS ?_
  simp only [Act.put, List.setIfInBounds_toArray, List.set_cons_zero, List.set_cons_succ]
  refine wpAnyL_take 8 33 (.bool false) [14, 17] rfl rfl (by kernel_rfl) (by kernel_rfl) (by kernel_rfl) (by kernel_rfl) (by kernel_rfl) (fun _ _ _ h => h) (by rfl) (fun u _ => by go_simp) hS ?_
  simp only [Act.put, List.setIfInBounds_toArray, List.set_cons_zero, List.set_cons_succ]
  refine wpAnyL_take 9 34 (.agg #[.bool lf, .slice b.ca cn b.cc, .slice b.ka kn b.kc, .slice b.ga gn b.gc]) [11, 14, 17] rfl rfl (by kernel_rfl) (by kernel_rfl) (by kernel_rfl) (by kernel_rfl) (by kernel_rfl) (fun _ _ _ h => h) (by rfl) (fun W hW => by obtain ⟨x0, x1, x2, x3⟩ := box4 hW.inn; go_simp) hS ?_
  simp only [Act.put, List.setIfInBounds_toArray, List.set_cons_zero, List.set_cons_succ]
  refine wpAnyL_take 10 35 (.string key) [11, 14, 17] rfl rfl (by kernel_rfl) (by kernel_rfl) (by kernel_rfl) (by kernel_rfl) (by kernel_rfl) (fun _ _ _ h => h) (by rfl) (fun u _ => by go_simp) hS ?_
  simp only [Act.put, List.setIfInBounds_toArray, List.set_cons_zero, List.set_cons_succ]
  refine wpAnyL_take 12 37 (.agg #[.bool lf, .slice ca cn cc, .slice ka kn kc, .slice ga gn gc]) [14, 17] rfl rfl (by kernel_rfl) (by kernel_rfl) (by kernel_rfl) (by kernel_rfl) (by kernel_rfl) (fun _ _ _ h => h) (by rfl) (fun W hW => by obtain ⟨x0, x1, x2, x3⟩ := box4 hW.box; go_simp) hS ?_
  simp only [Act.put, List.setIfInBounds_toArray, List.set_cons_zero, List.set_cons_succ]
  refine wpAnyL_take 13 38 (.string key) [14, 17] rfl rfl (by kernel_rfl) (by kernel_rfl) (by kernel_rfl) (by kernel_rfl) (by kernel_rfl) (fun _ _ _ h => h) (by rfl) (fun u _ => by go_simp) hS ?_
  simp only [Act.put, List.setIfInBounds_toArray, List.set_cons_zero, List.set_cons_succ]
  refine wpAnyL_one (i := 11) (by kernel_rfl) rfl (by rfl) fun K hK => ?_
  refine wp_call_fn 31 _ _ (by rfl) #[.agg #[.bool lf, .slice b.ca cn b.cc, .slice b.ka kn b.kc, .slice b.ga gn b.gc], .string key] (by with_unfolding_all rfl) entKd (some 36) (by rfl) _ (unhide HKP _ hS) ?_
  rintro _ W5 ⟨rfl, hb5⟩
  have hS5 := hS.below hb5
  refine hK _ _ (fun _ => hS5) ?_
  clear hK K hS hb5
  have hS := hS5
  simp only [Act.put, List.setIfInBounds_toArray, List.set_cons_zero, List.set_cons_succ]
  refine wpAnyL_one (i := 14) (by kernel_rfl) rfl (by rfl) fun K hK => ?_
  refine wp_call_fn 32 _ _ (by rfl) #[.agg #[.bool lf, .slice ca cn cc, .slice ka kn kc, .slice ga gn gc], .string key] (by with_unfolding_all rfl) entRk (some 39) (by rfl) _ (unhide HKD _ hS) ?_
  rintro _ W6 ⟨rfl, hb6⟩
  have hS6 := hS.below hb6
  refine hK _ _ (fun _ => hS6) ?_
  clear hK K hS hb6
  have hS := hS6
  simp only [Act.put, List.setIfInBounds_toArray, List.set_cons_zero, List.set_cons_succ]
  refine wpAnyL_take 15 40 (.bool false) [16, 17] rfl rfl (by kernel_rfl) (by kernel_rfl) (by kernel_rfl) (by kernel_rfl) (by kernel_rfl) (fun _ _ _ h => h) (by rfl) (fun u _ => by go_simp) hS ?_
  simp only [Act.put, List.setIfInBounds_toArray, List.set_cons_zero, List.set_cons_succ]
  refine wpAnyL_take 16 41 (.bool false) [17] rfl rfl (by kernel_rfl) (by kernel_rfl) (by kernel_rfl) (by kernel_rfl) (by kernel_rfl) (fun _ _ _ h => h) (by rfl) (fun u _ => by go_simp) hS ?_
  simp only [Act.put, List.setIfInBounds_toArray, List.set_cons_zero, List.set_cons_succ]
  refine wpAnyL_take 17 42 (.bool false) [] rfl rfl (by kernel_rfl) (by kernel_rfl) (by kernel_rfl) (by kernel_rfl) (by kernel_rfl) (fun _ _ _ h => h) (by rfl) (fun u _ => by go_simp) hS ?_
  simp only [Act.put, List.setIfInBounds_toArray, List.set_cons_zero, List.set_cons_succ]
  refine wpAnyL_take 18 43 (.agg #[.bool lf, .slice b.ca cn b.cc, .slice b.ka kn b.kc, .slice b.ga gn b.gc]) [20, 21] rfl rfl (by kernel_rfl) (by kernel_rfl) (by kernel_rfl) (by kernel_rfl) (by kernel_rfl) (fun _ _ _ h => h) (by rfl) (fun W hW => by obtain ⟨x0, x1, x2, x3⟩ := box4 hW.inn; go_simp) hS ?_
  simp only [Act.put, List.setIfInBounds_toArray, List.set_cons_zero, List.set_cons_succ]
  refine wpAnyL_take 19 44 (.agg #[.bool lf, .slice ca cn cc, .slice ka kn kc, .slice ga gn gc]) [20, 21] rfl rfl (by kernel_rfl) (by kernel_rfl) (by kernel_rfl) (by kernel_rfl) (by kernel_rfl) (fun _ _ _ h => h) (by rfl) (fun W hW => by obtain ⟨x0, x1, x2, x3⟩ := box4 hW.box; go_simp) hS ?_
  simp only [Act.put, List.setIfInBounds_toArray, List.set_cons_zero, List.set_cons_succ]
  refine wpAnyL_one (i := 20) (by kernel_rfl) rfl (by rfl) fun K hK => ?_
  refine wp_call_fn 22 _ _ (by rfl) #[.agg #[.bool lf, .slice b.ca cn b.cc, .slice b.ka kn b.kc, .slice b.ga gn b.gc], .agg #[.bool lf, .slice ca cn cc, .slice ka kn kc, .slice ga gn gc]] (by with_unfolding_all rfl) entKe (some 45) (by rfl) _ (unhide HKE _ hS) ?_
  rintro _ W7 ⟨rfl, hb7⟩
  have hS7 := hS.below hb7
  refine hK _ _ (fun _ => hS7) ?_
  clear hK K hS hb7
  have hS := hS7
  simp only [Act.put, List.setIfInBounds_toArray, List.set_cons_zero, List.set_cons_succ]
  refine wpAnyL_take 21 46 (.bool false) [] rfl rfl (by kernel_rfl) (by kernel_rfl) (by kernel_rfl) (by kernel_rfl) (by kernel_rfl) (fun _ _ _ h => h) (by rfl) (fun u _ => by go_simp) hS ?_
  simp only [Act.put, List.setIfInBounds_toArray, List.set_cons_zero, List.set_cons_succ]
  refine wpAnyL_one (i := 22) (by kernel_rfl) rfl (by rfl) fun K hK => ?_
  refine wp_val (.bool false) (by go_simp) (some 47) (by rfl) ?_
  have HS7 := hide hS
  refine hK _ _ (fun h => absurd rfl h) ?_
  clear hK K hS hS5 hS6 hS7
  simp only [Act.put, List.setIfInBounds_toArray, List.set_cons_zero, List.set_cons_succ]
  refine wpAnyL_done (by kernel_rfl) ?_ _
  clear HKP HKD HKE HKP0 HKD0 HKE0 HS6
  obtain ⟨y0, y1, y2, y3⟩ := box4 (unhide HS7).inn
  have HC7 := hide (unhide HOV0 W7 b N (unhide HS7).le)
  rw [hbv] at HC7
  go_wp2_with fail
  refine (unhide HC7).mono ?_
  rintro e W8 ⟨rfl, m, hmlf, hmln, hmat, hup⟩
  have hm : m.leaf = lf ∧ m.cells.length = cn ∧ m.keys.length = kn ∧ m.kids.length = gn := ⟨hmlf, hmln⟩
  have HMF := hide (unhide HM2 m hm)
  have hbm := unhide HV m b hm
  have HMV : Hid (∀ x : Nv, x.v m = .agg #[.bool lf, .slice x.ca cn x.cc, .slice x.ka kn x.kc, .slice x.ga gn x.gc]) := fun x => unhide HV m x hm
  have HB8 : Hid (Below N u W8) := (unhide HS7).bel.trans (hup.below (fun x hx => ((unhide HS7).le.blk x hx).1) (unhide HS7).hN)
  have HI8 := hide (hup.node (unhide HS7).le (unhide HS7).inn)
  have HZ8 : Hid (N ≤ W8.heap.size) := Nat.le_trans (unhide HS7).hN hup.size
  have HT8 := hide (lTwin m b W8 hmat (unhide HS7).le.nil (by have := unhide HMF; have h1 := this.1; have h2 := this.2.1; have h3 := this.2.2; omega))
  have HD8 := hide hmat
  rw [hbm] at HT8
  clear HC7 HS7 y0 y1 y2 y3 hup hmat hmlf hmln hm HOV0 HM2
  obtain ⟨y0, y1, y2, y3⟩ := box4 (unhide HI8)
  go_wp2_with fail
  refine (unhide HT8).mono ?_
  rintro e W9 ⟨c, rfl, hct, _, hb9⟩
  have HCT := hide hct
  have HI9 := hide (box_below (unhide HI8) hb9)
  have HB9 : Hid (Below N u W9) := (unhide HB8).trans (hb9.mono (unhide HZ8))
  have HZ9 : Hid (N ≤ W9.heap.size) := Nat.le_trans (unhide HZ8) hb9.size
  have HD9 := hide ((unhide HD8).below hb9)
  rw [unhide HMV c]
  clear hct hb9 HT8 HI8 HB8 HZ8 HD8 y0 y1 y2 y3
  obtain ⟨M2, hM2⟩ : ∃ M2, M2 = W9.heap.size := ⟨_, rfl⟩
  have HM2 := hide hM2
  clear hM2
  go_wp2_with (first
    | ((with_reducible refine wpList_alloc_node (by rfl) (by rfl) (some 10) (by rfl) M2 (unhide HM2) ?_); intro W10 HX10 HB10 HS10; simp only [Act.put, List.setIfInBounds_toArray, List.set_cons_zero, List.set_cons_succ])
    | ((with_reducible refine wpList_store_node (by rfl) (.tmp 10) (.tmp 51) (by rfl) M2 lf c.ca cn c.cc c.ka kn c.kc c.ga gn c.gc (by with_unfolding_all rfl) (by with_unfolding_all rfl) (unhide HX10) ?_); intro W11 HX11 HE11; simp only [Act.put]; obtain ⟨y0, y1, y2, y3⟩ := box4 (unhide HX11))
    | fail)
  have HS11 : Hid (Fo u W11 N M M2 m b c #[.bool lf, .slice b.ca cn b.cc, .slice b.ka kn b.kc, .slice b.ga gn b.gc] #[.bool lf, .slice c.ca cn c.cc, .slice c.ka kn c.kc, .slice c.ga gn c.gc]) := by
    have hb : Below W9.heap.size W9 W11 := by rw [unhide HE11, ← unhide HM2]; exact belowRow (unhide HB10) (Nat.le_refl _) _
    exact ⟨(unhide HB9).trans (hb.mono (unhide HZ9)), Nat.le_trans (unhide HZ9) hb.size, box_below (unhide HI9) hb, unhide HX11, (unhide HD9).below hb, (unhide HCT).below hb⟩
  clear HX10 HB10 HS10 HX11 HE11 HI9 HB9 HZ9 HD9 HCT HM2
  obtain ⟨X2, hX2⟩ : ∃ X, X = (m.fat key).1 := ⟨_, rfl⟩
  obtain ⟨Y2, hY2⟩ : ∃ Y, Y = (m.fat key).2 := ⟨_, rfl⟩
  obtain ⟨Z2, hZ2⟩ : ∃ Z, Z = m.kat key := ⟨_, rfl⟩
  have HC11 := hide (rFindF m c key W11 (unhide HS11).tw (unhide HMF))
  rw [unhide HMV c, ← hX2, ← hY2] at HC11
  have HNF2 := hide (fun (v : World) (hv : NdAt v m b) => nFindF m b key v hv)
  have HKP20 := hide (fun (v : World) (hv : NdAt v m b) => nKidF m b key v hv)
  have HKD20 := hide (fun (v : World) (hv : NdAt v m c) => rKidF m c key v hv (unhide HMF))
  rw [unhide HMV b, ← hX2, ← hY2] at HNF2
  rw [unhide HMV b, ← hZ2] at HKP20
  rw [unhide HMV c, ← hZ2] at HKD20
  clear hX2 hY2 hZ2
  refine (unhide HC11).mono ?_
  rintro e V11 ⟨rfl, hb11⟩
  have HS12 := hide ((unhide HS11).below hb11)
  clear hb11 HS11 HC11 y0 y1 y2 y3
  obtain ⟨y0, y1, y2, y3⟩ := box4 (unhide HS12).inn
  go_wp2_with fail
  refine (unhide HNF2 V11 (unhide HS12).at_).mono ?_
  rintro e V12 ⟨rfl, hb12⟩
  have HS13 := hide ((unhide HS12).below hb12)
  clear hb12 HS12 HNF2 y0 y1 y2 y3
  have HKP2 : Hid (∀ v : World, Fo u v N M M2 m b c #[.bool lf, .slice b.ca cn b.cc, .slice b.ka kn b.kc, .slice b.ga gn b.gc] #[.bool lf, .slice c.ca cn c.cc, .slice c.ka kn c.kc, .slice c.ga gn c.gc] → Calls Try.prog 31 #[.agg #[.bool lf, .slice b.ca cn b.cc, .slice b.ka kn b.kc, .slice b.ga gn b.gc], .string key] v fun e u' => ∃ r, e = .returned r ∧ r = .int .i64 Z2 ∧ Below v.heap.size v u') := fun v hv => unhide HKP20 v hv.at_
  have HKD2 : Hid (∀ v : World, Fo u v N M M2 m b c #[.bool lf, .slice b.ca cn b.cc, .slice b.ka kn b.kc, .slice b.ga gn b.gc] #[.bool lf, .slice c.ca cn c.cc, .slice c.ka kn c.kc, .slice c.ga gn c.gc] → Calls Try.prog 32 #[.agg #[.bool lf, .slice c.ca cn c.cc, .slice c.ka kn c.kc, .slice c.ga gn c.gc], .string key] v fun e u' => ∃ r, e = .returned r ∧ r = .int .i64 Z2 ∧ Below v.heap.size v u') := fun v hv => unhide HKD20 v hv.tw
  go_wp2_with fail
  refine wp_region_last (fun W => Fo u W N M M2 m b c #[.bool lf, .slice b.ca cn b.cc, .slice b.ka kn b.kc, .slice b.ga gn b.gc] #[.bool lf, .slice c.ca cn c.cc, .slice c.ka kn c.kc, .slice c.ga gn c.gc]) 17 hmix ((unhide HS13).below (belowDrewN (Below.refl _ _) 1)) fun hS => ?_
  refine wpAnyL_take 0 64 (.int .i64 X2) [] rfl rfl (by kernel_rfl) (by kernel_rfl) (by kernel_rfl) (by kernel_rfl) (by kernel_rfl) (fun _ _ _ h => h) (by rfl) (fun u _ => by go_simp) hS ?_
  simp only [Act.put, List.setIfInBounds_toArray, List.set_cons_zero, List.set_cons_succ]
  refine wpAnyL_take 1 65 (.int .i64 X2) [] rfl rfl (by kernel_rfl) (by kernel_rfl) (by kernel_rfl) (by kernel_rfl) (by kernel_rfl) (fun _ _ _ h => h) (by rfl) (fun u _ => by go_simp) hS ?_
  simp only [Act.put, List.setIfInBounds_toArray, List.set_cons_zero, List.set_cons_succ]
  refine wpAnyL_take 2 66 (.bool true) [] rfl rfl (by kernel_rfl) (by kernel_rfl) (by kernel_rfl) (by kernel_rfl) (by kernel_rfl) (fun _ _ _ h => h) (by rfl) (fun u _ => by go_simp) hS ?_
  simp only [Act.put, List.setIfInBounds_toArray, List.set_cons_zero, List.set_cons_succ]
  refine wpAnyL_take 3 67 (.bool true) [] rfl rfl (by kernel_rfl) (by kernel_rfl) (by kernel_rfl) (by kernel_rfl) (by kernel_rfl) (fun _ _ _ h => h) (by rfl) (fun u _ => by go_simp) hS ?_
  simp only [Act.put, List.setIfInBounds_toArray, List.set_cons_zero, List.set_cons_succ]
  refine wpAnyL_take 4 68 (.bool Y2) [] rfl rfl (by kernel_rfl) (by kernel_rfl) (by kernel_rfl) (by kernel_rfl) (by kernel_rfl) (fun _ _ _ h => h) (by rfl) (fun u _ => by go_simp) hS ?_
  simp only [Act.put, List.setIfInBounds_toArray, List.set_cons_zero, List.set_cons_succ]
  refine wpAnyL_take 5 69 (.bool Y2) [] rfl rfl (by kernel_rfl) (by kernel_rfl) (by kernel_rfl) (by kernel_rfl) (by kernel_rfl) (fun _ _ _ h => h) (by rfl) (fun u _ => by go_simp) hS ?_
  simp only [Act.put, List.setIfInBounds_toArray, List.set_cons_zero, List.set_cons_succ]
  refine wpAnyL_take 6 70 (.bool true) [] rfl rfl (by kernel_rfl) (by kernel_rfl) (by kernel_rfl) (by kernel_rfl) (by kernel_rfl) (fun _ _ _ h => h) (by rfl) (fun W hW => by cases Y2 <;> go_simp) hS ?_
  simp only [Act.put, List.setIfInBounds_toArray, List.set_cons_zero, List.set_cons_succ]
  refine wpAnyL_take 7 71 (.bool true) [] rfl rfl (by kernel_rfl) (by kernel_rfl) (by kernel_rfl) (by kernel_rfl) (by kernel_rfl) (fun _ _ _ h => h) (by rfl) (fun u _ => by go_simp) hS ?_
  simp only [Act.put, List.setIfInBounds_toArray, List.set_cons_zero, List.set_cons_succ]
  refine wpAnyL_take 8 72 (.bool true) [] rfl rfl (by kernel_rfl) (by kernel_rfl) (by kernel_rfl) (by kernel_rfl) (by kernel_rfl) (fun _ _ _ h => h) (by rfl) (fun u _ => by go_simp) hS ?_
  simp only [Act.put, List.setIfInBounds_toArray, List.set_cons_zero, List.set_cons_succ]
  refine wpAnyL_take 9 73 (.agg #[.bool lf, .slice b.ca cn b.cc, .slice b.ka kn b.kc, .slice b.ga gn b.gc]) [] rfl rfl (by kernel_rfl) (by kernel_rfl) (by kernel_rfl) (by kernel_rfl) (by kernel_rfl) (fun _ _ _ h => h) (by rfl) (fun W hW => by obtain ⟨x0, x1, x2, x3⟩ := box4 hW.inn; go_simp) hS ?_
  simp only [Act.put, List.setIfInBounds_toArray, List.set_cons_zero, List.set_cons_succ]
  refine wpAnyL_take 10 74 (.string key) [] rfl rfl (by kernel_rfl) (by kernel_rfl) (by kernel_rfl) (by kernel_rfl) (by kernel_rfl) (fun _ _ _ h => h) (by rfl) (fun u _ => by go_simp) hS ?_
  simp only [Act.put, List.setIfInBounds_toArray, List.set_cons_zero, List.set_cons_succ]
  refine wpAnyL_take 12 76 (.agg #[.bool lf, .slice c.ca cn c.cc, .slice c.ka kn c.kc, .slice c.ga gn c.gc]) [] rfl rfl (by kernel_rfl) (by kernel_rfl) (by kernel_rfl) (by kernel_rfl) (by kernel_rfl) (fun _ _ _ h => h) (by rfl) (fun W hW => by obtain ⟨x0, x1, x2, x3⟩ := box4 hW.now; go_simp) hS ?_
  simp only [Act.put, List.setIfInBounds_toArray, List.set_cons_zero, List.set_cons_succ]
  refine wpAnyL_take 13 77 (.string key) [] rfl rfl (by kernel_rfl) (by kernel_rfl) (by kernel_rfl) (by kernel_rfl) (by kernel_rfl) (fun _ _ _ h => h) (by rfl) (fun u _ => by go_simp) hS ?_
  simp only [Act.put, List.setIfInBounds_toArray, List.set_cons_zero, List.set_cons_succ]
  refine wpAnyL_one (i := 11) (by kernel_rfl) rfl (by rfl) fun K hK => ?_
  refine wp_call_fn 31 _ _ (by rfl) #[.agg #[.bool lf, .slice b.ca cn b.cc, .slice b.ka kn b.kc, .slice b.ga gn b.gc], .string key] (by with_unfolding_all rfl) entKd (some 75) (by rfl) _ (unhide HKP2 _ hS) ?_
  rintro _ V5 ⟨rfl, hb5⟩
  have hS5 := hS.below hb5
  refine hK _ _ (fun _ => hS5) ?_
  clear hK K hS hb5
  have hS := hS5
  simp only [Act.put, List.setIfInBounds_toArray, List.set_cons_zero, List.set_cons_succ]
  refine wpAnyL_one (i := 14) (by kernel_rfl) rfl (by rfl) fun K hK => ?_
  refine wp_call_fn 32 _ _ (by rfl) #[.agg #[.bool lf, .slice c.ca cn c.cc, .slice c.ka kn c.kc, .slice c.ga gn c.gc], .string key] (by with_unfolding_all rfl) entRk (some 78) (by rfl) _ (unhide HKD2 _ hS) ?_
  rintro _ V6 ⟨rfl, hb6⟩
  have hS6 := hS.below hb6
  refine hK _ _ (fun _ => hS6) ?_
  clear hK K hS hb6
  have hS := hS6
  simp only [Act.put, List.setIfInBounds_toArray, List.set_cons_zero, List.set_cons_succ]
  refine wpAnyL_take 15 79 (.bool true) [] rfl rfl (by kernel_rfl) (by kernel_rfl) (by kernel_rfl) (by kernel_rfl) (by kernel_rfl) (fun _ _ _ h => h) (by rfl) (fun u _ => by go_simp) hS ?_
  simp only [Act.put, List.setIfInBounds_toArray, List.set_cons_zero, List.set_cons_succ]
  refine wpAnyL_take 16 80 (.bool true) [] rfl rfl (by kernel_rfl) (by kernel_rfl) (by kernel_rfl) (by kernel_rfl) (by kernel_rfl) (fun _ _ _ h => h) (by rfl) (fun u _ => by go_simp) hS ?_
  simp only [Act.put, List.setIfInBounds_toArray, List.set_cons_zero, List.set_cons_succ]
  refine wpAnyL_one (i := 17) (by kernel_rfl) rfl (by rfl) fun K hK => ?_
  refine wp_val (.bool true) (by go_simp) (some 4) (by rfl) ?_
  have HS7 := hide hS
  refine hK _ _ (fun h => absurd rfl h) ?_
  clear hK K hS hS5 hS6
  simp only [Act.put, List.setIfInBounds_toArray, List.set_cons_zero, List.set_cons_succ]
  refine wpAnyL_done (by kernel_rfl) ?_ _
  go_wp2
  go_ret
  exact ⟨rfl, (unhide HS7).bel⟩
end Go.Proofs.Ytppmpomfihalfaa
