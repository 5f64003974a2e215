/- Vectors: the walk of VectorSteps. -/
import Derived.Test.YtajflgonhomkfaaXq
namespace Go.Proofs.Ytajflgonhomkfaa
open Go.RowKit

section
variable {P : Program} {ops : Array Oper} {Q : Exit → Act → World → Prop} {md : Region.Mode} {S : World → Prop} {last : Nat}
/-- take number i first, which is not wanted -/
theorem wpAnyL_skip (i : Nat) (d : Tmp) (r : List Nat) {oi : Oper} {fuel : Nat} {listed : Array Bool} {a : Act} {w : World} (hi : ops[i]? = some oi) (hd : oi.dst = some d)
    (hs : Region.noSelect ops = true) (hf : Region.free md ops listed i = true) (hr : (Region.ready md ops listed).contains i = true) (hc : chained md ops last i r = true) (hu : (r.all fun y => !listed.getD y true) = true)
    (hQ : ∀ c a w, Q (.panic c) (a.put (some d) undef) w → Q (.panic c) a w) (hg : Region.wanted oi (yielded ops a.tmps) = false) (hS : S w)
    (h : wpAnyL P md ops Q S last fuel (listed.setIfInBounds i true) (a.put (some d) undef) w) : wpAnyL P md ops Q S last (fuel + 1) listed a w := by
  have hu' : unlisted listed r := by
    clear hc
    induction r with
    | nil => trivial
    | cons y r ih =>
      simp only [List.all_cons, Bool.and_eq_true, Bool.not_eq_true'] at hu
      exact ⟨hu.1, ih hu.2⟩
  exact wpAnyL_first hi (Region.noSelect_spec hs) (by rw [hd]; exact hQ) r hc fuel listed a w hu' (Region.free_spec hi hf) (by simpa using hr) (.inr ⟨hg, rfl⟩) hS (by rw [hd]; exact h)
end
theorem entCov : ∀ args (w : World), (callFunc 45 args).run Try.prog w = .ok (.enter 45 args) w := by
  intro args w
  go_simp
theorem entCmp : ∀ args (w : World), (callFunc 46 args).run Try.prog w = .ok (.enter 46 args) w := by
  intro args w
  go_simp
theorem entCnt : ∀ args (w : World), (callFunc 43 args).run Try.prog w = .ok (.enter 43 args) w := by
  intro args w
  go_simp
theorem kNext {W0 : World} {a : List (Nat × Nat)} {xa : Option Addr} {ca na : Nat} (x : Nat) (d : Nat × Nat) (r : Int) (hr : nextV a x = (d, r)) (ea : na = a.length) (ha : Da W0 a xa ca) (W : World) (hW : Below W0.heap.size W0 W) : Calls Try.prog 44 #[.slice xa na ca, .int .u32 (x : Int)] W fun e W' => e = .returned (.tuple #[.agg #[.int .u32 (d.1 : Int), .int .u64 (d.2 : Int)], .int .i64 r]) ∧ Below W0.heap.size W0 W' := by
  subst ea
  have h := vNext a xa ca x W (ha.below hW).at
  rw [hr] at h
  exact h.mono fun e W' h => ⟨h.1, hW.trans (h.2.mono hW.size)⟩
theorem one_ok (x c : Nat) (h1 : 1 ≤ c) (h2 : c ≤ 1099511627776) : V.Ok [(x, c)] := ⟨⟨List.pairwise_singleton _ _, fun d hd => by rw [List.mem_singleton.1 hd]; exact ⟨h1, h2⟩⟩, by simp⟩
theorem cnt_one (x c : Nat) : V.cnt [(x, c)] x = c := by simp [V.cnt]
theorem zero_eq (W : World) : (binOp .eql 29 (.agg #[.int .u32 0, .int .u64 0]) (.agg #[.int .u32 0, .int .u64 0])).run Try.prog W = .ok (.bool true) W := by rw [eqlD]; rfl
set_option maxRecDepth 100000 in
set_option maxHeartbeats 16000000 in
theorem steps10_walk (l1 : List (Nat × Nat)) (a1 : Option Addr) (c1 x : Nat) (u : World) (h1 : Da u l1 a1 c1) (hx : x < 4294967296) :
    Calls Try.prog 9 #[.slice a1 l1.length c1, .int .u32 (x : Int)] u fun e u' => e = .returned (.bool true) ∧ Below u.heap.size u u' := by
  have HW := hide (kWorks u u (Below.refl _ _))
  have hla := V.mkv_vec 63 (l := l1) V.vec_nil (Nat.zero_le _)
  have oa : V.Ok (V.mkv 63 [] l1) := ⟨hla.1, by omega⟩
  have HM1 : Hid (∀ W : World, Below u.heap.size u W → Calls Try.prog 39 #[.slice a1 l1.length c1, .int .i64 63] W fun e W' => ∃ xm nm cm, e = .returned (.slice xm nm cm) ∧ nm = (V.mkv 63 [] l1).length ∧ Da W' (V.mkv 63 [] l1) xm cm ∧ Below W.heap.size W W') := fun W hW => kMade 63 (by decide) rfl (h1.below hW) W (Below.refl _ _)
  have hl := hla.2
  clear h1 hla
  generalize V.mkv 63 [] l1 = a at *
  obtain ⟨n1, hn1⟩ : ∃ n, n = l1.length := ⟨_, rfl⟩
  rw [← hn1] at HM1 ⊢
  obtain ⟨N, hN⟩ : ∃ N, N = u.heap.size := ⟨_, rfl⟩
  have HN := hide hN
  rw [← hN] at HW HM1 ⊢
  clear hN hn1
  have HUP : Hid (∀ W W' : World, Below N u W → Below W.heap.size W W' → Below N u W') := fun W W' h1 h2 => h1.trans (h2.mono (by rw [unhide HN]; exact h1.size))
  have hcl := V.cnt_le oa.pos x
  have hcv := cnt_ok oa x
  by_cases hc : V.cnt a x = 1099511627776
  · have HNX : Hid (nextV a x = ((0, 0), 101)) := by unfold nextV; rw [V.okB_true.2 oa, hc]; exact rfl
    have HCN : Hid (V.cntV a x = 1099511627776) := by rw [hcv, hc]; exact rfl
    have heq := zero_eq
    clear hc hcl hcv oa hl
    go_enter Try.func9, Try.ntmps9
    go_upto_region 4 with (first
      | (go_at_call 38; refine (unhide HW).mono ?_; rintro e w1 ⟨rfl, hb1⟩; have HBX := hide hb1; clear hb1)
      | (go_at_call 39; refine (unhide HM1 _ (unhide HBX)).mono ?_; rintro e w2 ⟨xa, na, ca, rfl, en, hd, hb1⟩; replace HBX := hide (unhide HUP _ _ (unhide HBX) hb1); have HA := hide hd; have EA := hide en; clear hb1 hd en HM1)
      | fail)
    have X1 := hide (kNext x (0, 0) 101 (unhide HNX) (unhide EA) (unhide HA) w2 (Below.refl _ _))
    go_upto_region 5 with (first
      | (go_at_call 44; refine (unhide X1).mono ?_; rintro e w3 ⟨rfl, hb1⟩; replace HBX := hide (unhide HUP _ _ (unhide HBX) hb1); replace HA := hide ((unhide HA).below hb1); clear hb1)
      | ((with_reducible refine wpList_alloc_dot (by rfl) (by rfl) (some 6) (by rfl) w3.heap.size rfl ?_); intro W4 HX4 HB4 HS4; simp only [Act.put, List.setIfInBounds_toArray, List.set_cons_zero, List.set_cons_succ])
      | ((with_reducible refine wpList_store_dot (by rfl) (.tmp 6) (.tmp 18) (by rfl) w3.heap.size 0 0 (by with_unfolding_all rfl) (by with_unfolding_all rfl) (unhide HX4) ?_); intro W5 HX5 HE5; simp only [Act.put]; have HB5 : Hid (Below w3.heap.size w3 W5) := (by rw [unhide HE5]; exact belowRow (unhide HB4) (Nat.le_refl _) _))
      | fail)
    replace HBX := hide (unhide HUP _ _ (unhide HBX) (unhide HB5))
    replace HA := hide ((unhide HA).below (unhide HB5))
    have X2 := hide (kCount x _ (unhide HCN) (unhide EA) (unhide HA) W5 (Below.refl _ _))
    have HZ : Hid (∀ W : World, Below W5.heap.size W5 W → W.cell? ⟨w3.heap.size, 0, none⟩ = some (.int .u32 0) ∧ W.cell? ⟨w3.heap.size, 1, none⟩ = some (.int .u64 0)) := fun W hW => box2 (box_below (unhide HX5) hW)
    go_wp2_with (first
      | (go_at_call 43; refine (unhide X2).mono ?_; rintro e w6 ⟨rfl, hb1⟩; obtain ⟨y0, y1⟩ := unhide HZ _ hb1; replace HBX := hide (unhide HUP _ _ (unhide HBX) hb1); clear hb1)
      | fail)
    go_ret
    exact ⟨rfl, unhide HBX⟩
  · have hlt : V.cnt a x < 1099511627776 := by omega
    have ob : V.Ok [(x, V.cnt a x + 1)] := one_ok x _ (by omega) (by omega)
    have HNX : Hid (nextV a x = ((x, V.cnt a x + 1), 0)) := by unfold nextV; rw [V.okB_true.2 oa, if_neg hc]; exact rfl
    have HCN : Hid (V.cntV a x = V.cnt a x) := hcv
    have hml : (V.mrg a [(x, V.cnt a x + 1)]).length ≤ 64 := Nat.le_trans (V.mrg_len_le _ _) (by simp only [List.length_cons, List.length_nil]; omega)
    have om := mrg_ok oa ob hml
    have HMX := hide (max_ok oa ob hml)
    have hcm : V.cnt (V.mrg a [(x, V.cnt a x + 1)]) x = V.cnt a x + 1 := by rw [V.cnt_mrg oa.toVec ob.toVec, cnt_one]; omega
    have HC1 : Hid (covB a (x, V.cnt a x + 1) = false) := decide_eq_false (by simp only [hcv]; omega)
    have HC2 : Hid (covB (V.mrg a [(x, V.cnt a x + 1)]) (x, V.cnt a x + 1) = true) := decide_eq_true (by simp only [cnt_ok om, hcm]; omega)
    have HC3 : Hid (V.cnt a x ≠ 0 → covB a (x, V.cnt a x) = true) := fun h => decide_eq_true (by simp only [hcv]; omega)
    have HC4 : Hid (V.cntV (V.mrg a [(x, V.cnt a x + 1)]) x = V.cnt a x + 1) := by rw [cnt_ok om, hcm]; exact rfl
    have HCP : Hid (cmpV a (V.mrg a [(x, V.cnt a x + 1)]) = -1) := by
      have e1 : belB a (V.mrg a [(x, V.cnt a x + 1)]) = true := (belB_true oa om).2 ((V.bel_mrg oa.toVec ob.toVec).1 fun _ => Nat.le_refl _).1
      have e2 : belB (V.mrg a [(x, V.cnt a x + 1)]) a = false := by
        cases h : belB (V.mrg a [(x, V.cnt a x + 1)]) a
        · rfl
        · have := (belB_true om oa).1 h x; rw [hcm] at this; omega
      unfold cmpV; rw [e1, e2]; exact rfl
    have HFB : Hid (∀ w : World, Da (w.alloc (.cells #[.int .u32 (x : Int), .int .u64 ((V.cnt a x + 1 : Nat) : Int)] 29)) [(x, V.cnt a x + 1)] (some ⟨w.heap.size, 0, none⟩) 1) := fun w => Da.lit w _ _ _ 1 rfl rfl (fun d hd => by rw [List.mem_singleton.1 hd]; exact ⟨hx, by simp only; omega⟩) (by simp)
    clear hcv oa ob hml om hcm hc hcl hl
    generalize V.mrg a [(x, V.cnt a x + 1)] = m at *
    generalize V.cnt a x = cc at *
    obtain ⟨r, hr⟩ : ∃ r, r = cc + 1 := ⟨_, rfl⟩
    have HR := hide hr
    rw [← hr] at HNX HMX HC1 HC2 HC4 HFB
    have hcci : (cc : Int) < 1099511627776 := by omega
    have hcne : ¬ (cc : Int) = 1099511627776 := by omega
    have hcne2 : ((cc : Int) == 1099511627776) = false := by simp only [beq_eq_false_iff_ne, ne_eq]; omega
    have hw1 : IntKind.u64.wrap ((cc : Int) + 1) = (r : Int) := by rw [IntKind.wrap_u64]; omega
    have hw2 : IntKind.u64.wrap ((r : Int) - 1) = (cc : Int) := by rw [IntKind.wrap_u64]; omega
    have HRI : Hid ((r : Int) ≤ 1099511627776) := by show _ ≤ _; omega
    clear hr hlt hx
    go_enter Try.func9, Try.ntmps9
    go_upto_region 4 with (first
      | (go_at_call 38; refine (unhide HW).mono ?_; rintro e w1 ⟨rfl, hb1⟩; have HBX := hide hb1; clear hb1)
      | (go_at_call 39; refine (unhide HM1 _ (unhide HBX)).mono ?_; rintro e w2 ⟨xa, na, ca, rfl, en, hd, hb1⟩; replace HBX := hide (unhide HUP _ _ (unhide HBX) hb1); have HA := hide hd; have EA := hide en; clear hb1 hd en HM1)
      | fail)
    have X1 := hide (kNext x (x, r) 0 (unhide HNX) (unhide EA) (unhide HA) w2 (Below.refl _ _))
    go_upto_region 5 with (first
      | (go_at_call 44; refine (unhide X1).mono ?_; rintro e w3 ⟨rfl, hb1⟩; replace HBX := hide (unhide HUP _ _ (unhide HBX) hb1); replace HA := hide ((unhide HA).below hb1); clear hb1)
      | ((with_reducible refine wpList_alloc_dot (by rfl) (by rfl) (some 6) (by rfl) w3.heap.size rfl ?_); intro W4 HX4 HB4 HS4; simp only [Act.put, List.setIfInBounds_toArray, List.set_cons_zero, List.set_cons_succ])
      | ((with_reducible refine wpList_store_dot (by rfl) (.tmp 6) (.tmp 18) (by rfl) w3.heap.size (x : Int) (r : Int) (by with_unfolding_all rfl) (by with_unfolding_all rfl) (unhide HX4) ?_); intro W5 HX5 HE5; simp only [Act.put]; have HB5 : Hid (Below w3.heap.size w3 W5) := (by rw [unhide HE5]; exact belowRow (unhide HB4) (Nat.le_refl _) _))
      | fail)
    replace HBX := hide (unhide HUP _ _ (unhide HBX) (unhide HB5))
    replace HA := hide ((unhide HA).below (unhide HB5))
    obtain ⟨D, hD⟩ : ∃ D, D = w3.heap.size := ⟨_, rfl⟩
    have HZ : Hid (∀ W : World, Below W5.heap.size W5 W → W.cell? ⟨D, 0, none⟩ = some (.int .u32 (x : Int)) ∧ W.cell? ⟨D, 1, none⟩ = some (.int .u64 (r : Int))) := fun W hW => by rw [hD]; exact box2 (box_below (unhide HX5) hW)
    rw [← hD]
    clear hD X1 HX4 HB4 HS4 HX5 HE5 HB5
    have X2 := hide (kCount x _ (unhide HCN) (unhide EA) (unhide HA))
    have X3 := hide (kCovers x r false (unhide HC1) (unhide EA) (unhide HA))
    obtain ⟨Z, hZ⟩ : ∃ Z, Z = W5.heap.size := ⟨_, rfl⟩
    have HZZ := hide hZ
    rw [← hZ] at X2 X3 HZ
    clear hZ
    have HB0 : Hid (Below Z W5 W5) := Below.refl _ _
    go_upto_region 7 with (first
      | (go_at_call 43; refine (unhide X2 _ (unhide HB0)).mono ?_; rintro e w6 ⟨rfl, hb1⟩; replace HB0 := hide hb1; clear hb1)
      | fail)
    obtain ⟨y0, y1⟩ := unhide HZ _ (unhide HB0)
    go_cut [52] (fun s52 wx => s52 = .bool false ∧ Hid (Below Z W5 wx))
    case first =>
      go_region_held3 (fun v => v.cell? ⟨D, 0, none⟩ = some (.int .u32 (x : Int)) ∧ v.cell? ⟨D, 1, none⟩ = some (.int .u64 (r : Int))) (first | exact ⟨y0, y1⟩ | exact ⟨z0, z1⟩ | exact ⟨v0, v1⟩ | (go_keep; done)) (first
        | (go_at_call 43; refine (unhide X2 _ (belowDrew (unhide HB0))).mono ?_; rintro e w7 ⟨rfl, hb1⟩; have HB7 := hide hb1; obtain ⟨z0, z1⟩ := unhide HZ _ hb1; clear hb1)
        | (go_at_call 45; refine (unhide X3 _ (unhide HB7)).mono ?_; rintro e w8 ⟨rfl, hb1⟩; have HB8 := hide hb1; obtain ⟨v0, v1⟩ := unhide HZ _ hb1; clear hb1)
        | fail)
      go_wp2_with fail
      go_meet
      exact ⟨rfl, unhide HB8⟩
    case rest =>
      obtain ⟨rfl, HC0⟩ := hcut
      clear HB0 y0 y1
      have HB0 := HC0
      obtain ⟨y0, y1⟩ := unhide HZ _ (unhide HB0)
      have HAW : Hid (Below Z W5 (wc.alloc (.cells #[.int .u32 (x : Int), .int .u64 (r : Int)] 29))) := (unhide HB0).alloc (by rw [unhide HZZ]; exact (unhide HB0).size) _
      have HAA := hide ((unhide HA).below (by rw [← unhide HZZ]; exact unhide HAW))
      have X4 := hide (kMax m 0 (unhide HMX) (unhide EA) (nb := 1) rfl (unhide HAA) (unhide HFB wc) _ (Below.refl _ _))
      have HMZ : Hid (∀ W : World, Below (wc.alloc (.cells #[.int .u32 (x : Int), .int .u64 (r : Int)] 29)).heap.size (wc.alloc (.cells #[.int .u32 (x : Int), .int .u64 (r : Int)] 29)) W → Below Z W5 W) := fun W hW => (unhide HAW).trans (hW.mono (by rw [unhide HZZ]; exact (unhide HAW).size))
      go_upto_region 10 with (first
        | (go_at_call 20; refine (unhide X4).mono ?_; rintro e w9 ⟨xm, nm, cm, rfl, en, hd, hb1⟩; replace HB0 := hide (unhide HMZ _ hb1); have HM := hide hd; have EM := hide en; clear hb1 hd en)
        | fail)
      clear y0 y1 HAW HAA X4 HMZ X2 X3
      have HB9 : Hid (Below N u w9) := unhide HUP _ _ (unhide HBX) (by rw [← unhide HZZ]; exact unhide HB0)
      have HA9 := hide ((unhide HA).below (by rw [← unhide HZZ]; exact unhide HB0))
      have HZ9 : Hid (∀ W : World, Below w9.heap.size w9 W → W.cell? ⟨D, 0, none⟩ = some (.int .u32 (x : Int)) ∧ W.cell? ⟨D, 1, none⟩ = some (.int .u64 (r : Int))) := fun W hW => unhide HZ W ((unhide HB0).trans (hW.mono (by rw [unhide HZZ]; exact (unhide HB0).size)))
      have Y1 := hide (kCovers x r true (unhide HC2) (unhide EM) (unhide HM))
      have Y2 := hide (kCompare _ (unhide HCP) (unhide EA) (unhide EM) (unhide HA9) (unhide HM))
      have Y3 := hide (kCount x _ (unhide HC4) (unhide EM) (unhide HM))
      have Y4 := hide (fun h => kCovers x cc true (unhide HC3 h) (unhide EA) (unhide HA9))
      obtain ⟨y0, y1⟩ := unhide HZ9 _ (Below.refl _ _)
      have HBZ := hide (Below.refl w9.heap.size w9)
      clear HA HM HA9 HB0 HC0 HZ
      by_cases hz : cc = 0
      · have hr1 : r = 1 := by have := unhide HR; omega
        subst hr1
        clear Y4
        have Z1 : Hid (∀ W : World, Below w9.heap.size w9 W → Calls Try.prog 45 #[.slice xm nm cm, .agg #[.int .u32 (x : Int), .int .u64 1]] W fun e W' => ∃ v, e = .returned v ∧ v = .bool true ∧ Below w9.heap.size w9 W') := fun W hW => (unhide Y1 W hW).mono fun _ _ h => ⟨_, h.1, rfl, h.2⟩
        have Z2 : Hid (∀ W : World, Below w9.heap.size w9 W → Calls Try.prog 46 #[.slice xa na ca, .slice xm nm cm] W fun e W' => ∃ v, e = .returned v ∧ v = .int .i8 (-1) ∧ Below w9.heap.size w9 W') := fun W hW => (unhide Y2 W hW).mono fun _ _ h => ⟨_, h.1, rfl, h.2⟩
        have Z3 : Hid (∀ W : World, Below w9.heap.size w9 W → Calls Try.prog 43 #[.slice xm nm cm, .int .u32 (x : Int)] W fun e W' => ∃ v, e = .returned v ∧ v = .int .u64 1 ∧ Below w9.heap.size w9 W') := fun W hW => (unhide Y3 W hW).mono fun _ _ h => ⟨_, h.1, rfl, h.2⟩
        have hmix : Try.prog.follows .mixedOrders = true := by kernel_rfl
        refine wp_region_last (fun W => Below w9.heap.size w9 W) 35 hmix (belowDrew (Below.refl _ _)) fun hS => ?_
        refine wpAnyL_take 0 60 (.int .i64 0) [] rfl rfl (by kernel_rfl) (by kernel_rfl) (by kernel_rfl) (by kernel_rfl) (by kernel_rfl) (fun _ _ _ h => h) (by rfl) (fun u _ => by go_simp) hS ?_
        simp only [Act.put, List.setIfInBounds_toArray, List.set_cons_zero, List.set_cons_succ]
        refine wpAnyL_take 1 61 (.bool true) [] rfl rfl (by kernel_rfl) (by kernel_rfl) (by kernel_rfl) (by kernel_rfl) (by kernel_rfl) (fun _ _ _ h => h) (by rfl) (fun u _ => by go_simp) hS ?_
        simp only [Act.put, List.setIfInBounds_toArray, List.set_cons_zero, List.set_cons_succ]
        refine wpAnyL_take 2 62 (.bool true) [] rfl rfl (by kernel_rfl) (by kernel_rfl) (by kernel_rfl) (by kernel_rfl) (by kernel_rfl) (fun _ _ _ h => h) (by rfl) (fun u _ => by go_simp) hS ?_
        simp only [Act.put, List.setIfInBounds_toArray, List.set_cons_zero, List.set_cons_succ]
        refine wpAnyL_take 3 63 (.slice xm nm cm) [] rfl rfl (by kernel_rfl) (by kernel_rfl) (by kernel_rfl) (by kernel_rfl) (by kernel_rfl) (fun _ _ _ h => h) (by rfl) (fun u _ => by go_simp) hS ?_
        simp only [Act.put, List.setIfInBounds_toArray, List.set_cons_zero, List.set_cons_succ]
        refine wpAnyL_take 4 64 (.agg #[.int .u32 (x : Int), .int .u64 1]) [] rfl rfl (by kernel_rfl) (by kernel_rfl) (by kernel_rfl) (by kernel_rfl) (by kernel_rfl) (fun _ _ _ h => h) (by rfl) (fun W hW => by obtain ⟨e1, e2⟩ := unhide HZ9 W hW; go_simp) hS ?_
        simp only [Act.put, List.setIfInBounds_toArray, List.set_cons_zero, List.set_cons_succ]
        refine wpAnyL_one (i := 5) (by kernel_rfl) rfl (by rfl) fun K hK => ?_
        refine wp_call_fn 45 _ _ (by rfl) #[.slice xm nm cm, .agg #[.int .u32 (x : Int), .int .u64 1]] (by with_unfolding_all rfl) entCov (some 65) (by rfl) _ (unhide Z1 _ hS) ?_
        rintro _ X1 ⟨rfl, hbe⟩
        refine hK _ _ (fun _ => hbe) ?_
        clear hK K hS
        have hS := hbe
        clear hbe
        simp only [Act.put, List.setIfInBounds_toArray, List.set_cons_zero, List.set_cons_succ]
        refine wpAnyL_take 6 66 (.bool true) [] rfl rfl (by kernel_rfl) (by kernel_rfl) (by kernel_rfl) (by kernel_rfl) (by kernel_rfl) (fun _ _ _ h => h) (by rfl) (fun u _ => by go_simp) hS ?_
        simp only [Act.put, List.setIfInBounds_toArray, List.set_cons_zero, List.set_cons_succ]
        refine wpAnyL_take 7 67 (.bool true) [] rfl rfl (by kernel_rfl) (by kernel_rfl) (by kernel_rfl) (by kernel_rfl) (by kernel_rfl) (fun _ _ _ h => h) (by rfl) (fun u _ => by go_simp) hS ?_
        simp only [Act.put, List.setIfInBounds_toArray, List.set_cons_zero, List.set_cons_succ]
        refine wpAnyL_take 8 68 (.slice xa na ca) [] rfl rfl (by kernel_rfl) (by kernel_rfl) (by kernel_rfl) (by kernel_rfl) (by kernel_rfl) (fun _ _ _ h => h) (by rfl) (fun u _ => by go_simp) hS ?_
        simp only [Act.put, List.setIfInBounds_toArray, List.set_cons_zero, List.set_cons_succ]
        refine wpAnyL_take 9 69 (.slice xm nm cm) [] rfl rfl (by kernel_rfl) (by kernel_rfl) (by kernel_rfl) (by kernel_rfl) (by kernel_rfl) (fun _ _ _ h => h) (by rfl) (fun u _ => by go_simp) hS ?_
        simp only [Act.put, List.setIfInBounds_toArray, List.set_cons_zero, List.set_cons_succ]
        refine wpAnyL_one (i := 10) (by kernel_rfl) rfl (by rfl) fun K hK => ?_
        refine wp_call_fn 46 _ _ (by rfl) #[.slice xa na ca, .slice xm nm cm] (by with_unfolding_all rfl) entCmp (some 70) (by rfl) _ (unhide Z2 _ hS) ?_
        rintro _ X2 ⟨rfl, hbe⟩
        refine hK _ _ (fun _ => hbe) ?_
        clear hK K hS
        have hS := hbe
        clear hbe
        simp only [Act.put, List.setIfInBounds_toArray, List.set_cons_zero, List.set_cons_succ]
        refine wpAnyL_take 11 71 (.bool true) [] rfl rfl (by kernel_rfl) (by kernel_rfl) (by kernel_rfl) (by kernel_rfl) (by kernel_rfl) (fun _ _ _ h => h) (by rfl) (fun u _ => by go_simp) hS ?_
        simp only [Act.put, List.setIfInBounds_toArray, List.set_cons_zero, List.set_cons_succ]
        refine wpAnyL_take 12 72 (.bool true) [] rfl rfl (by kernel_rfl) (by kernel_rfl) (by kernel_rfl) (by kernel_rfl) (by kernel_rfl) (fun _ _ _ h => h) (by rfl) (fun u _ => by go_simp) hS ?_
        simp only [Act.put, List.setIfInBounds_toArray, List.set_cons_zero, List.set_cons_succ]
        refine wpAnyL_take 13 73 (.bool true) [] rfl rfl (by kernel_rfl) (by kernel_rfl) (by kernel_rfl) (by kernel_rfl) (by kernel_rfl) (fun _ _ _ h => h) (by rfl) (fun u _ => by go_simp) hS ?_
        simp only [Act.put, List.setIfInBounds_toArray, List.set_cons_zero, List.set_cons_succ]
        refine wpAnyL_take 14 74 (.slice xm nm cm) [] rfl rfl (by kernel_rfl) (by kernel_rfl) (by kernel_rfl) (by kernel_rfl) (by kernel_rfl) (fun _ _ _ h => h) (by rfl) (fun u _ => by go_simp) hS ?_
        simp only [Act.put, List.setIfInBounds_toArray, List.set_cons_zero, List.set_cons_succ]
        refine wpAnyL_take 15 75 (.int .u32 (x : Int)) [] rfl rfl (by kernel_rfl) (by kernel_rfl) (by kernel_rfl) (by kernel_rfl) (by kernel_rfl) (fun _ _ _ h => h) (by rfl) (fun u _ => by go_simp) hS ?_
        simp only [Act.put, List.setIfInBounds_toArray, List.set_cons_zero, List.set_cons_succ]
        refine wpAnyL_take 17 77 (.pointer (some ⟨D, 1, none⟩)) [] rfl rfl (by kernel_rfl) (by kernel_rfl) (by kernel_rfl) (by kernel_rfl) (by kernel_rfl) (fun _ _ _ h => h) (by rfl) (fun u _ => by go_simp) hS ?_
        simp only [Act.put, List.setIfInBounds_toArray, List.set_cons_zero, List.set_cons_succ]
        refine wpAnyL_take 18 78 (.int .u64 1) [] rfl rfl (by kernel_rfl) (by kernel_rfl) (by kernel_rfl) (by kernel_rfl) (by kernel_rfl) (fun _ _ _ h => h) (by rfl) (fun W hW => by obtain ⟨e1, e2⟩ := unhide HZ9 W hW; go_simp) hS ?_
        simp only [Act.put, List.setIfInBounds_toArray, List.set_cons_zero, List.set_cons_succ]
        refine wpAnyL_one (i := 16) (by kernel_rfl) rfl (by rfl) fun K hK => ?_
        refine wp_call_fn 43 _ _ (by rfl) #[.slice xm nm cm, .int .u32 (x : Int)] (by with_unfolding_all rfl) entCnt (some 76) (by rfl) _ (unhide Z3 _ hS) ?_
        rintro _ X3 ⟨rfl, hbe⟩
        refine hK _ _ (fun _ => hbe) ?_
        clear hK K hS
        have hS := hbe
        clear hbe
        simp only [Act.put, List.setIfInBounds_toArray, List.set_cons_zero, List.set_cons_succ]
        refine wpAnyL_take 19 79 (.bool true) [] rfl rfl (by kernel_rfl) (by kernel_rfl) (by kernel_rfl) (by kernel_rfl) (by kernel_rfl) (fun _ _ _ h => h) (by rfl) (fun u _ => by go_simp) hS ?_
        simp only [Act.put, List.setIfInBounds_toArray, List.set_cons_zero, List.set_cons_succ]
        refine wpAnyL_take 20 80 (.bool true) [] rfl rfl (by kernel_rfl) (by kernel_rfl) (by kernel_rfl) (by kernel_rfl) (by kernel_rfl) (fun _ _ _ h => h) (by rfl) (fun u _ => by go_simp) hS ?_
        simp only [Act.put, List.setIfInBounds_toArray, List.set_cons_zero, List.set_cons_succ]
        refine wpAnyL_take 21 81 (.bool true) [] rfl rfl (by kernel_rfl) (by kernel_rfl) (by kernel_rfl) (by kernel_rfl) (by kernel_rfl) (fun _ _ _ h => h) (by rfl) (fun u _ => by go_simp) hS ?_
        simp only [Act.put, List.setIfInBounds_toArray, List.set_cons_zero, List.set_cons_succ]
        refine wpAnyL_take 22 82 (.pointer (some ⟨D, 1, none⟩)) [] rfl rfl (by kernel_rfl) (by kernel_rfl) (by kernel_rfl) (by kernel_rfl) (by kernel_rfl) (fun _ _ _ h => h) (by rfl) (fun u _ => by go_simp) hS ?_
        simp only [Act.put, List.setIfInBounds_toArray, List.set_cons_zero, List.set_cons_succ]
        refine wpAnyL_take 23 83 (.int .u64 1) [] rfl rfl (by kernel_rfl) (by kernel_rfl) (by kernel_rfl) (by kernel_rfl) (by kernel_rfl) (fun _ _ _ h => h) (by rfl) (fun W hW => by obtain ⟨e1, e2⟩ := unhide HZ9 W hW; go_simp) hS ?_
        simp only [Act.put, List.setIfInBounds_toArray, List.set_cons_zero, List.set_cons_succ]
        refine wpAnyL_take 24 84 (.bool true) [] rfl rfl (by kernel_rfl) (by kernel_rfl) (by kernel_rfl) (by kernel_rfl) (by kernel_rfl) (fun _ _ _ h => h) (by rfl) (fun u _ => by go_simp) hS ?_
        simp only [Act.put, List.setIfInBounds_toArray, List.set_cons_zero, List.set_cons_succ]
        refine wpAnyL_take 25 85 (.bool true) [] rfl rfl (by kernel_rfl) (by kernel_rfl) (by kernel_rfl) (by kernel_rfl) (by kernel_rfl) (fun _ _ _ h => h) (by rfl) (fun u _ => by go_simp) hS ?_
        simp only [Act.put, List.setIfInBounds_toArray, List.set_cons_zero, List.set_cons_succ]
        refine wpAnyL_skip 26 86 [] rfl rfl (by kernel_rfl) (by kernel_rfl) (by kernel_rfl) (by kernel_rfl) (by kernel_rfl) (fun _ _ _ h => h) (by rfl) hS ?_
        simp only [Act.put, List.setIfInBounds_toArray, List.set_cons_zero, List.set_cons_succ]
        refine wpAnyL_skip 27 87 [] rfl rfl (by kernel_rfl) (by kernel_rfl) (by kernel_rfl) (by kernel_rfl) (by kernel_rfl) (fun _ _ _ h => h) (by rfl) hS ?_
        simp only [Act.put, List.setIfInBounds_toArray, List.set_cons_zero, List.set_cons_succ]
        refine wpAnyL_skip 28 88 [] rfl rfl (by kernel_rfl) (by kernel_rfl) (by kernel_rfl) (by kernel_rfl) (by kernel_rfl) (fun _ _ _ h => h) (by rfl) hS ?_
        simp only [Act.put, List.setIfInBounds_toArray, List.set_cons_zero, List.set_cons_succ]
        refine wpAnyL_skip 29 89 [] rfl rfl (by kernel_rfl) (by kernel_rfl) (by kernel_rfl) (by kernel_rfl) (by kernel_rfl) (fun _ _ _ h => h) (by rfl) hS ?_
        simp only [Act.put, List.setIfInBounds_toArray, List.set_cons_zero, List.set_cons_succ]
        refine wpAnyL_skip 30 90 [] rfl rfl (by kernel_rfl) (by kernel_rfl) (by kernel_rfl) (by kernel_rfl) (by kernel_rfl) (fun _ _ _ h => h) (by rfl) hS ?_
        simp only [Act.put, List.setIfInBounds_toArray, List.set_cons_zero, List.set_cons_succ]
        refine wpAnyL_skip 31 91 [] rfl rfl (by kernel_rfl) (by kernel_rfl) (by kernel_rfl) (by kernel_rfl) (by kernel_rfl) (fun _ _ _ h => h) (by rfl) hS ?_
        simp only [Act.put, List.setIfInBounds_toArray, List.set_cons_zero, List.set_cons_succ]
        refine wpAnyL_skip 32 92 [] rfl rfl (by kernel_rfl) (by kernel_rfl) (by kernel_rfl) (by kernel_rfl) (by kernel_rfl) (fun _ _ _ h => h) (by rfl) hS ?_
        simp only [Act.put, List.setIfInBounds_toArray, List.set_cons_zero, List.set_cons_succ]
        refine wpAnyL_take 33 93 (.bool true) [] rfl rfl (by kernel_rfl) (by kernel_rfl) (by kernel_rfl) (by kernel_rfl) (by kernel_rfl) (fun _ _ _ h => h) (by rfl) (fun u _ => by go_simp) hS ?_
        simp only [Act.put, List.setIfInBounds_toArray, List.set_cons_zero, List.set_cons_succ]
        refine wpAnyL_take 34 94 (.bool true) [] rfl rfl (by kernel_rfl) (by kernel_rfl) (by kernel_rfl) (by kernel_rfl) (by kernel_rfl) (fun _ _ _ h => h) (by rfl) (fun u _ => by go_simp) hS ?_
        simp only [Act.put, List.setIfInBounds_toArray, List.set_cons_zero, List.set_cons_succ]
        refine wpAnyL_one (i := 35) (by kernel_rfl) rfl (by rfl) fun K hK => ?_
        refine wp_val (.bool true) (by go_simp) (some 4) (by rfl) ?_
        refine hK _ _ (fun h => absurd rfl h) ?_
        clear hK K
        simp only [Act.put, List.setIfInBounds_toArray, List.set_cons_zero, List.set_cons_succ]
        refine wpAnyL_done (by kernel_rfl) ?_ _
        go_wp2
        go_ret
        exact ⟨rfl, unhide HUP _ _ (unhide HB9) hS⟩
      · have hr1 : ((r : Int) == 1) = false := by have := unhide HR; simp only [beq_eq_false_iff_ne, ne_eq]; omega
        have hr2 : ¬ (r : Int) = 1 := by have := unhide HR; omega
        replace Y4 := hide (unhide Y4 hz)
        go_region_held3 (fun v => v.cell? ⟨D, 0, none⟩ = some (.int .u32 (x : Int)) ∧ v.cell? ⟨D, 1, none⟩ = some (.int .u64 (r : Int))) (first | exact ⟨y0, y1⟩ | exact ⟨z0, z1⟩ | exact ⟨v0, v1⟩ | exact ⟨t0, t1⟩ | exact ⟨q0, q1⟩ | (go_keep; done)) (first
          | (go_at_call_of 45 (Value.slice xm nm cm); refine (unhide Y1 _ (belowDrew (unhide HBZ))).mono ?_; rintro e w10 ⟨rfl, hb1⟩; have HB10 := hide hb1; obtain ⟨z0, z1⟩ := unhide HZ9 _ hb1; clear hb1)
          | (go_at_call 46; refine (unhide Y2 _ (unhide HB10)).mono ?_; rintro e w11 ⟨rfl, hb1⟩; have HB11 := hide hb1; obtain ⟨v0, v1⟩ := unhide HZ9 _ hb1; clear hb1)
          | (go_at_call 43; refine (unhide Y3 _ (unhide HB11)).mono ?_; rintro e w12 ⟨rfl, hb1⟩; have HB12 := hide hb1; obtain ⟨t0, t1⟩ := unhide HZ9 _ hb1; clear hb1)
          | (go_at_call 45; refine (unhide Y4 _ (unhide HB12)).mono ?_; rintro e w13 ⟨rfl, hb1⟩; have HB13 := hide hb1; obtain ⟨q0, q1⟩ := unhide HZ9 _ hb1; clear hb1)
          | fail)
        go_wp2
        go_ret
        exact ⟨rfl, unhide HUP _ _ (unhide HB9) (unhide HB13)⟩
theorem steps10_int (l1 : List (Nat × Nat)) (a1 : Option Addr) (c1 : Nat) (n : Int) (u : World) (h1 : Da u l1 a1 c1) (hn : 0 ≤ n ∧ n ≤ 4294967295) :
    Calls Try.prog 9 #[.slice a1 l1.length c1, .int .u32 n] u fun e u' => e = .returned (.bool true) ∧ Below u.heap.size u u' := by
  obtain ⟨x, rfl⟩ : ∃ x : Nat, n = (x : Int) := ⟨n.toNat, by omega⟩
  exact steps10_walk l1 a1 c1 x u h1 (by omega)
end Go.Proofs.Ytajflgonhomkfaa
