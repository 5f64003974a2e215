/- Vectors: the walk of VectorGreat. -/
import Derived.Test.YtajflgonhomkfaaXq
namespace Go.Proofs.Ytajflgonhomkfaa
open Go.RowKit

theorem fits_app {a b : List (Nat × Nat)} (ha : Fits a) (hb : Fits b) : Fits (a ++ b) := fun d hd => by
  rcases List.mem_append.1 hd with h | h
  · exact ha d h
  · exact hb d h
theorem cnt_has {a b : List (Nat × Nat)} (ha : V.Ok a) (hb : V.Ok b) {most k : Nat} (h : a.length + b.length ≤ most) (hk : k < (V.mkv most [] (a ++ b)).length) : 1 ≤ max (V.cnt a ((V.mkv most [] (a ++ b))[k]).1) (V.cnt b ((V.mkv most [] (a ++ b))[k]).1) := by
  have h1 : V.has (V.mkv most [] (a ++ b)) ((V.mkv most [] (a ++ b))[k]).1 := ⟨_, List.getElem_mem hk, rfl⟩
  rw [V.has_mkv (by simpa using h), V.has_append, V.has_iff ha.toVec, V.has_iff hb.toVec] at h1
  rcases h1 with h1 | h1 | h1
  · obtain ⟨d, hd, _⟩ := h1; cases hd
  · omega
  · omega
set_option maxRecDepth 100000 in
set_option maxHeartbeats 16000000 in
theorem great10_walk (l1 l2 l3 : List (Nat × Nat)) (a1 a2 a3 : Option Addr) (c1 c2 c3 : Nat) (u : World) (h1 : Da u l1 a1 c1) (h2 : Da u l2 a2 c2) (h3 : Da u l3 a3 c3) :
    Calls Try.prog 8 #[.slice a1 l1.length c1, .slice a2 l2.length c2, .slice a3 l3.length c3] u fun e u' => e = .returned (.bool true) ∧ Below u.heap.size u u' := by
  have HW := hide (kWorks u u (Below.refl _ _))
  have hla := V.mkv_vec 64 (l := l1) V.vec_nil (Nat.zero_le _)
  have hlb := V.mkv_vec 64 (l := l2) V.vec_nil (Nat.zero_le _)
  have hlc := V.mkv_vec 64 (l := l3) V.vec_nil (Nat.zero_le _)
  have HM1 : Hid (∀ W : World, Below u.heap.size u W → Calls Try.prog 39 #[.slice a1 l1.length c1, .int .i64 64] W fun e W' => ∃ xm nm cm, e = .returned (.slice xm nm cm) ∧ nm = (V.mkv 64 [] l1).length ∧ Da W' (V.mkv 64 [] l1) xm cm ∧ Below W.heap.size W W') := fun W hW => kMade 64 (by decide) rfl (h1.below hW) W (Below.refl _ _)
  have HM2 : Hid (∀ W : World, Below u.heap.size u W → Calls Try.prog 39 #[.slice a2 l2.length c2, .int .i64 64] W fun e W' => ∃ xm nm cm, e = .returned (.slice xm nm cm) ∧ nm = (V.mkv 64 [] l2).length ∧ Da W' (V.mkv 64 [] l2) xm cm ∧ Below W.heap.size W W') := fun W hW => kMade 64 (by decide) rfl (h2.below hW) W (Below.refl _ _)
  have HM3 : Hid (∀ W : World, Below u.heap.size u W → Calls Try.prog 39 #[.slice a3 l3.length c3, .int .i64 64] W fun e W' => ∃ xm nm cm, e = .returned (.slice xm nm cm) ∧ nm = (V.mkv 64 [] l3).length ∧ Da W' (V.mkv 64 [] l3) xm cm ∧ Below W.heap.size W W') := fun W hW => kMade 64 (by decide) rfl (h3.below hW) W (Below.refl _ _)
  clear h1 h2 h3
  generalize V.mkv 64 [] l1 = a at *
  generalize V.mkv 64 [] l2 = b at *
  generalize V.mkv 64 [] l3 = c at *
  have oa : V.Ok a := ⟨hla.1, hla.2⟩
  have ob : V.Ok b := ⟨hlb.1, hlb.2⟩
  have oc : V.Ok c := ⟨hlc.1, hlc.2⟩
  have hab : a.length + b.length ≤ 128 := by have := hla.2; have := hlb.2; omega
  have HU1 := hide (V.union_len oa.toVec ob.toVec hab)
  have HU2 := hide (fun k hk => cnt_has oa ob (most := 128) (k := k) hab hk)
  have HOA := hide oa
  have HOB := hide ob
  have HOC := hide oc
  have HAB := hide hab
  clear oa ob oc hab hla hlb hlc
  generalize hUU : V.mkv 128 [] (a ++ b) = U at *
  have HUU := hide hUU
  clear hUU
  obtain ⟨n1, hn1⟩ : ∃ n, n = l1.length := ⟨_, rfl⟩
  obtain ⟨n2, hn2⟩ : ∃ n, n = l2.length := ⟨_, rfl⟩
  obtain ⟨n3, hn3⟩ : ∃ n, n = l3.length := ⟨_, rfl⟩
  rw [← hn1] at HM1 ⊢
  rw [← hn2] at HM2 ⊢
  rw [← hn3] at HM3 ⊢
  obtain ⟨N, hN⟩ : ∃ N, N = u.heap.size := ⟨_, rfl⟩
  have HN := hide hN
  rw [← hN] at HW HM1 HM2 HM3 ⊢
  clear hN hn1 hn2 hn3
  have HUP : Hid (∀ W W' : World, Below N u W → Below W.heap.size W W' → Below N u W') := fun W W' h1 h2 => h1.trans (h2.mono (by rw [unhide HN]; exact h1.size))
  go_enter Try.func8, Try.ntmps8
  go_upto_region 7 with (first
    | (go_at_call 38; refine (unhide HW).mono ?_; rintro e w1 ⟨rfl, hb1⟩; have HBX := hide hb1; clear hb1)
    | (go_at_call_of 39 (Value.slice a1 n1 c1); have _t := HM1; refine (unhide HM1 _ (unhide HBX)).mono ?_; rintro e w2 ⟨xa, na, ca, rfl, en, hd, hb1⟩; replace HBX := hide (unhide HUP _ _ (unhide HBX) hb1); have HA := hide hd; have EA := hide en; clear hb1 hd en HM1 _t)
    | (go_at_call_of 39 (Value.slice a2 n2 c2); have _t := HM2; refine (unhide HM2 _ (unhide HBX)).mono ?_; rintro e w3 ⟨xb, nb, cb, rfl, en, hd, hb1⟩; replace HBX := hide (unhide HUP _ _ (unhide HBX) hb1); replace HA := hide ((unhide HA).below hb1); have HB := hide hd; have EB := hide en; clear hb1 hd en HM2 _t)
    | (go_at_call 39; refine (unhide HM3 _ (unhide HBX)).mono ?_; rintro e w4 ⟨xc, nc, cc, rfl, en, hd, hb1⟩; replace HBX := hide (unhide HUP _ _ (unhide HBX) hb1); replace HA := hide ((unhide HA).below hb1); replace HB := hide ((unhide HB).below hb1); have HC := hide hd; have EC := hide en; clear hb1 hd en HM3)
    | fail)
  have HON : Hid (OwnD w4 w4.heap.size [] none 0) := World.ownsRow_nil _ _ _ _
  have HL1 : Hid (([] : List (Nat × Nat)).length + a.length ≤ 1048577000) := by have := unhide HAB; show 0 + a.length ≤ _; omega
  go_upto_region 8 with (first
    | (at_builtin; refine wpList_putD (by rfl) (.tmp 30) (.tmp 31) (by rfl) (some 32) (by rfl) w4.heap.size [] a 0 na rfl (unhide EA) none xa 0 ca (by rfl) (by rfl) (unhide HON) (unhide HA).toDv (unhide HL1) (Nat.le_refl _) ?_; intro x5 m5 c5 w5 EN5 HO5 _ HB5 _; simp only [Act.put, List.setIfInBounds_toArray, List.set_cons_zero, List.set_cons_succ])
    | fail)
  have HL2 : Hid (([] ++ a : List (Nat × Nat)).length + b.length ≤ 1048577000) := by have := unhide HAB; show ([] ++ a : List (Nat × Nat)).length + b.length ≤ _; rw [List.nil_append]; omega
  have HSZ5 : Hid (w4.heap.size ≤ w5.heap.size) := (unhide HB5).size
  go_upto_region 9 with (first
    | (at_builtin; refine wpList_putD (by rfl) (.tmp 33) (.tmp 34) (by rfl) (some 35) (by rfl) w4.heap.size ([] ++ a) b m5 nb (unhide EN5) (unhide EB) x5 xb c5 cb (by rfl) (by rfl) (unhide HO5) ((unhide HB).below (unhide HB5)).toDv (unhide HL2) (unhide HSZ5) ?_; intro x6 m6 c6 w6 EN6 HO6 _ HB6 _; simp only [Act.put, List.setIfInBounds_toArray, List.set_cons_zero, List.set_cons_succ])
    | fail)
  have HB46 : Hid (Below w4.heap.size w4 w6) := (unhide HB5).trans (unhide HB6)
  replace HBX := hide (unhide HUP _ _ (unhide HBX) (unhide HB46))
  replace HA := hide ((unhide HA).below (unhide HB46))
  replace HB := hide ((unhide HB).below (unhide HB46))
  replace HC := hide ((unhide HC).below (unhide HB46))
  have HALL : Hid (Da w6 (a ++ b) x6 c6) := ⟨(unhide HO6).dv, fits_app (unhide HA).fits (unhide HB).fits, len_small (by rw [List.length_append]; exact unhide HAB)⟩
  have HEN : Hid (m6 = (a ++ b).length) := unhide EN6
  clear HON HL1 HL2 HSZ5 HO5 HB5 HO6 HB6 EN5 EN6 HB46
  have X1 : Hid (Calls Try.prog 39 #[.slice x6 m6 c6, .int .i64 128] w6 fun e W' => ∃ xm nm cm, e = .returned (.slice xm nm cm) ∧ nm = U.length ∧ Da W' U xm cm ∧ Below w6.heap.size w6 W') := by
    have := kMade 128 (by decide) (unhide HEN) (unhide HALL) w6 (Below.refl _ _)
    rw [unhide HUU] at this
    exact this
  go_upto_region 10 with (first
    | (go_at_call 39; refine (unhide X1).mono ?_; rintro e w7 ⟨xu, nu, cu, rfl, en, hd, hb1⟩; replace HBX := hide (unhide HUP _ _ (unhide HBX) hb1); replace HA := hide ((unhide HA).below hb1); replace HB := hide ((unhide HB).below hb1); replace HC := hide ((unhide HC).below hb1); have HU := hide hd; have EU := hide en; clear hb1 hd en)
    | fail)
  clear X1 HALL HEN HUU HW
  by_cases hml : (V.mrg a b).length ≤ 64
  · have om := mrg_ok (unhide HOA) (unhide HOB) hml
    have HOM := hide om
    have X2 := hide (kMax _ 0 (max_ok (unhide HOA) (unhide HOB) hml) (unhide EA) (unhide EB) (unhide HA) (unhide HB) w7 (Below.refl _ _))
    have hnu : (nu : Int) ≤ 64 := by have h1 := unhide EU; have h2 := unhide HU1; omega
    have HCM : Hid (∀ x, V.cntV (V.mrg a b) x = max (V.cnt a x) (V.cnt b x)) := fun x => by rw [cnt_ok om, V.cnt_mrg (unhide HOA).toVec (unhide HOB).toVec]
    have HAS := hide (fun oc => V.mrg_assoc (unhide HOA).toVec (unhide HOB).toVec (c := c) oc)
    clear hml om
    generalize V.mrg a b = m at *
    go_upto_region 11 with (first
      | (go_at_call 20; refine (unhide X2).mono ?_; rintro e w8 ⟨xm, nm, cm, rfl, en, hd, hb1⟩; replace HBX := hide (unhide HUP _ _ (unhide HBX) hb1); replace HA := hide ((unhide HA).below hb1); replace HB := hide ((unhide HB).below hb1); replace HC := hide ((unhide HC).below hb1); replace HU := hide ((unhide HU).below hb1); have HM := hide hd; have EM := hide en; clear hb1 hd en)
      | fail)
    have HNE : Hid (nm = nu) := by have h1 := unhide EU; have h2 := unhide HU1; have h3 := unhide EM; show nm = nu; omega
    clear X2
    have HB0 : Hid (Below w8.heap.size w8 w8) := Below.refl _ _
    go_wp2_with fail
    go_loopw [14] (fun i wr => ∃ k : Nat, k ≤ nu ∧ i = .int .i64 k ∧ Hid (Below w8.heap.size w8 wr)) (fun i _ => nu - (intOf i).toNat)
    case atStart => exact ⟨0, Nat.zero_le _, rfl, unhide HB0⟩
    case round =>
      clear HB0
      obtain ⟨k, hk, rfl, HI⟩ := hrel
      by_cases hlt : k < nu
      · have hki : (k : Int) < (nu : Int) := by omega
        have hkl : k < U.length := by rw [← unhide EU]; exact hlt
        have HPS := hide (unhide HU2 k hkl)
        obtain ⟨g, o, hao, e1, _⟩ := (unhide HU).lies.dt hkl
        subst hao
        have hix := ixD g o nu cu k hlt
        have HCL : Hid (∀ W : World, Below w8.heap.size w8 W → W.cell? ⟨g, o + k * 2, none⟩ = some (.int .u32 (U[k].1 : Int))) := fun W hW => cell_keep rfl hW e1
        clear e1
        generalize U[k].1 = ux at *
        generalize o + k * 2 = oo at *
        have K1 := hide (kCount ux _ (unhide HCM ux) (unhide EM) (unhide HM))
        have K2 := hide (kCount ux _ (cnt_ok (unhide HOA) ux) (unhide EA) (unhide HA))
        have K3 := hide (kCount ux _ (cnt_ok (unhide HOB) ux) (unhide EB) (unhide HB))
        have hbA := V.cnt_le (unhide HOA).pos ux
        have hbB := V.cnt_le (unhide HOB).pos ux
        generalize V.cnt a ux = A at *
        generalize V.cnt b ux = B at *
        have hAi : (A : Int) ≤ 1099511627776 := by omega
        have hBi : (B : Int) ≤ 1099511627776 := by omega
        rcases (by omega : (max A B = B ∧ A < B) ∨ (max A B = A ∧ ¬ A < B)) with ⟨hm, hAB⟩ | ⟨hm, hAB⟩
        · rw [hm] at K1 HPS
          have hmi : ¬ (B : Int) < 1 := by have := unhide HPS; omega
          have hABi : (A : Int) < (B : Int) := by omega
          clear hm hAB hbA hbB
          have y0 := unhide HCL _ (unhide HI)
          go_upto_region 19 with (first
            | (go_at_call 43; refine (unhide K1 _ (unhide HI)).mono ?_; rintro e w9 ⟨rfl, hb1⟩; have HB9 := hide hb1; have y1 := unhide HCL _ hb1; clear hb1)
            | fail)
          go_region_held3 (fun v => v.cell? ⟨g, oo, none⟩ = some (.int .u32 (ux : Int))) (first | exact y1 | exact y2 | exact y3 | (go_keep; done)) (first
            | (go_at_call_of 43 (Value.slice xa na ca); refine (unhide K2 _ (belowDrew (unhide HB9))).mono ?_; rintro e w10 ⟨rfl, hb1⟩; have HB10 := hide hb1; have y2 := unhide HCL _ hb1; clear hb1)
            | (go_at_call 43; refine (unhide K3 _ (unhide HB10)).mono ?_; rintro e w11 ⟨rfl, hb1⟩; have HB11 := hide hb1; have y3 := unhide HCL _ hb1; clear hb1)
            | fail)
          go_wp2_with fail
          go_roundw
          case rel => exact ⟨k + 1, by omega, by go_num, unhide HB11⟩
          case measure => simp [intOf]; omega
        · rw [hm] at K1 HPS
          have hmi : ¬ (A : Int) < 1 := by have := unhide HPS; omega
          have hmxr : ∀ (ts : Array TypeId) (t : TypeId) (W : World), (Builtin.max_ ts t #[.int .u64 (A : Int), .int .u64 (B : Int)]).run Try.prog W = .ok (.int .u64 (A : Int)) W := fun ts t W => by rw [run_max_int2, if_neg (by omega)]
          clear hm hAB hbA hbB
          have y0 := unhide HCL _ (unhide HI)
          go_upto_region 19 with (first
            | (go_at_call 43; refine (unhide K1 _ (unhide HI)).mono ?_; rintro e w9 ⟨rfl, hb1⟩; have HB9 := hide hb1; have y1 := unhide HCL _ hb1; clear hb1)
            | fail)
          go_region_held3 (fun v => v.cell? ⟨g, oo, none⟩ = some (.int .u32 (ux : Int))) (first | exact y1 | exact y2 | exact y3 | (go_keep; done)) (first
            | (go_at_call_of 43 (Value.slice xa na ca); refine (unhide K2 _ (belowDrew (unhide HB9))).mono ?_; rintro e w10 ⟨rfl, hb1⟩; have HB10 := hide hb1; have y2 := unhide HCL _ hb1; clear hb1)
            | (go_at_call 43; refine (unhide K3 _ (unhide HB10)).mono ?_; rintro e w11 ⟨rfl, hb1⟩; have HB11 := hide hb1; have y3 := unhide HCL _ hb1; clear hb1)
            | fail)
          go_wp2_with fail
          go_roundw
          case rel => exact ⟨k + 1, by omega, by go_num, unhide HB11⟩
          case measure => simp [intOf]; omega
      · obtain rfl : k = nu := by omega
        have hki : ¬ (k : Int) < (k : Int) := by omega
        replace HBX := hide (unhide HUP _ _ (unhide HBX) (unhide HI))
        replace HA := hide ((unhide HA).below (unhide HI))
        replace HB := hide ((unhide HB).below (unhide HI))
        replace HC := hide ((unhide HC).below (unhide HI))
        replace HM := hide ((unhide HM).below (unhide HI))
        have hne : nm = k := unhide HNE
        subst hne
        clear HI HU HCM HU2
        by_cases hf : (V.mrg m c).length ≤ 64
        · have X3 := hide (kMax _ 0 (max_ok (unhide HOM) (unhide HOC) hf) (unhide EM) (unhide EC) (unhide HM) (unhide HC) wr (Below.refl _ _))
          go_upto_region 22 with (first
            | (go_at_call 20; refine (unhide X3).mono ?_; rintro e w12 ⟨xp, np, cp, rfl, en, hd, hb1⟩; replace HBX := hide (unhide HUP _ _ (unhide HBX) hb1); replace HA := hide ((unhide HA).below hb1); replace HB := hide ((unhide HB).below hb1); replace HC := hide ((unhide HC).below hb1); replace HM := hide ((unhide HM).below hb1); have HP := hide hd; have EP := hide en; clear hb1 hd en)
            | fail)
          by_cases hg : (V.mrg b c).length ≤ 64
          · have X4 := hide (kMax _ 0 (max_ok (unhide HOB) (unhide HOC) hg) (unhide EB) (unhide EC) (unhide HB) (unhide HC) w12 (Below.refl _ _))
            have HMQ : Hid (maxV a (V.mrg b c) = (V.mrg m c, 0)) := by
              rw [max_ok (unhide HOA) (mrg_ok (unhide HOB) (unhide HOC) hg) (by rw [← unhide HAS (unhide HOC).toVec]; exact hf), unhide HAS (unhide HOC).toVec]; exact rfl
            go_upto_region 25 with (first
              | (go_at_call 20; refine (unhide X4).mono ?_; rintro e w13 ⟨xq, nq, cq, rfl, en, hd, hb1⟩; replace HBX := hide (unhide HUP _ _ (unhide HBX) hb1); replace HA := hide ((unhide HA).below hb1); replace HB := hide ((unhide HB).below hb1); replace HC := hide ((unhide HC).below hb1); replace HM := hide ((unhide HM).below hb1); replace HP := hide ((unhide HP).below hb1); have HQ := hide hd; have EQ := hide en; clear hb1 hd en)
              | fail)
            have X5 := hide (kMax _ 0 (unhide HMQ) (unhide EA) (unhide EQ) (unhide HA) (unhide HQ) w13 (Below.refl _ _))
            go_upto_region 26 with (first
              | (go_at_call 20; refine (unhide X5).mono ?_; rintro e w14 ⟨xr, nr, cr, rfl, en, hd, hb1⟩; replace HBX := hide (unhide HUP _ _ (unhide HBX) hb1); replace HA := hide ((unhide HA).below hb1); replace HB := hide ((unhide HB).below hb1); replace HC := hide ((unhide HC).below hb1); replace HM := hide ((unhide HM).below hb1); replace HP := hide ((unhide HP).below hb1); have HR := hide hd; have ER := hide en; clear hb1 hd en)
              | fail)
            have X6 := hide (kSame true (decide_eq_true rfl) (unhide EP) (unhide ER) (unhide HP) (unhide HR) w14 (Below.refl _ _))
            go_wp2_with (first
              | (go_at_call 40; refine (unhide X6).mono ?_; rintro e w15 ⟨rfl, hb1⟩; replace HBX := hide (unhide HUP _ _ (unhide HBX) hb1); clear hb1)
              | fail)
            go_ret
            exact ⟨rfl, unhide HBX⟩
          · have X4 := hide (kMax _ 82 (max_big (unhide HOB) (unhide HOC) hg) (unhide EB) (unhide EC) (unhide HB) (unhide HC) w12 (Below.refl _ _))
            go_wp2_with (first
              | (go_at_call 20; refine (unhide X4).mono ?_; rintro e w13 ⟨xq, nq, cq, rfl, en, hd, hb1⟩; replace HBX := hide (unhide HUP _ _ (unhide HBX) hb1); clear hb1 hd en)
              | fail)
            go_ret
            exact ⟨rfl, unhide HBX⟩
        · have X3 := hide (kMax _ 82 (max_big (unhide HOM) (unhide HOC) hf) (unhide EM) (unhide EC) (unhide HM) (unhide HC) wr (Below.refl _ _))
          go_upto_region 22 with (first
            | (go_at_call 20; refine (unhide X3).mono ?_; rintro e w12 ⟨xp, np, cp, rfl, en, hd, hb1⟩; replace HBX := hide (unhide HUP _ _ (unhide HBX) hb1); replace HA := hide ((unhide HA).below hb1); replace HB := hide ((unhide HB).below hb1); replace HC := hide ((unhide HC).below hb1); replace HM := hide ((unhide HM).below hb1); clear hb1 hd en)
            | fail)
          obtain ⟨⟨ql, qe⟩, hq⟩ : ∃ p : List (Nat × Nat) × Int, maxV b c = p := ⟨_, rfl⟩
          have X4 := hide (kMax ql qe hq (unhide EB) (unhide EC) (unhide HB) (unhide HC) w12 (Below.refl _ _))
          clear hq
          go_wp2_with (first
            | (go_at_call 20; refine (unhide X4).mono ?_; rintro e w13 ⟨xq, nq, cq, rfl, en, hd, hb1⟩; replace HBX := hide (unhide HUP _ _ (unhide HBX) hb1); clear hb1 hd en)
            | fail)
          go_ret
          exact ⟨rfl, unhide HBX⟩
  · have X2 := hide (kMax _ 82 (max_big (unhide HOA) (unhide HOB) hml) (unhide EA) (unhide EB) (unhide HA) (unhide HB) w7 (Below.refl _ _))
    have hnu : ¬ (nu : Int) ≤ 64 := by have h1 := unhide EU; have h2 := unhide HU1; omega
    go_wp2_with (first
      | (go_at_call 20; refine (unhide X2).mono ?_; rintro e w8 ⟨xm, nm, cm, rfl, en, hd, hb1⟩; replace HBX := hide (unhide HUP _ _ (unhide HBX) hb1); obtain rfl : nm = 0 := en; clear hb1 hd)
      | fail)
    go_ret
    exact ⟨rfl, unhide HBX⟩
end Go.Proofs.Ytajflgonhomkfaa
