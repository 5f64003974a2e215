/- Vectors: the walk of VectorOrder. -/
import Derived.Test.YtajflgonhomkfaaXq
namespace Go.Proofs.Ytajflgonhomkfaa
open Go.RowKit

theorem len_two {a b : List (Nat × Nat)} {x y : Nat} (ha : a.length ≤ x) (hb : b.length ≤ y) : (V.mrg a b).length ≤ x + y := Nat.le_trans (V.mrg_len_le a b) (by omega)
set_option maxRecDepth 100000 in
set_option maxHeartbeats 16000000 in
theorem order10_walk (l1 l2 l3 : List (Nat × Nat)) (a1 a2 a3 : Option Addr) (c1 c2 c3 : Nat) (u : World) (h1 : Da u l1 a1 c1) (h2 : Da u l2 a2 c2) (h3 : Da u l3 a3 c3) :
    Calls Try.prog 7 #[.slice a1 l1.length c1, .slice a2 l2.length c2, .slice a3 l3.length c3] u fun e u' => e = .returned (.bool true) ∧ Below u.heap.size u u' := by
  have H1 := hide h1
  have H2 := hide h2
  have H3 := hide h3
  have HW := hide (fun (W : World) (_ : Below u.heap.size u W) => kWorks W W (Below.refl _ _))
  have hla := V.mkv_vec 21 (l := l1) V.vec_nil (Nat.zero_le _)
  have hlb := V.mkv_vec 21 (l := l2) V.vec_nil (Nat.zero_le _)
  have hlc := V.mkv_vec 21 (l := l3) V.vec_nil (Nat.zero_le _)
  have HM1 := hide (fun (W : World) (hW : Below u.heap.size u W) => kMade 21 (by decide) rfl (h1.below hW) W (Below.refl _ _))
  have HM2 := hide (fun (W : World) (hW : Below u.heap.size u W) => kMade 21 (by decide) rfl (h2.below hW) W (Below.refl _ _))
  have HM3 := hide (fun (W : World) (hW : Below u.heap.size u W) => kMade 21 (by decide) rfl (h3.below hW) W (Below.refl _ _))
  obtain ⟨n1, hn1⟩ : ∃ n, n = l1.length := ⟨_, rfl⟩
  obtain ⟨n2, hn2⟩ : ∃ n, n = l2.length := ⟨_, rfl⟩
  obtain ⟨n3, hn3⟩ : ∃ n, n = l3.length := ⟨_, rfl⟩
  rw [← hn1] at HM1 ⊢
  rw [← hn2] at HM2 ⊢
  rw [← hn3] at HM3 ⊢
  generalize V.mkv 21 [] l1 = a at *
  generalize V.mkv 21 [] l2 = b at *
  generalize V.mkv 21 [] l3 = c at *
  have HM1 : Hid (∀ W : World, Below u.heap.size u W → Calls Try.prog 39 #[.slice a1 n1 c1, .int .i64 21] W fun e W' => ∃ xm nm cm, e = .returned (.slice xm nm cm) ∧ nm = a.length ∧ Da W' a xm cm ∧ Below W.heap.size W W') := HM1
  have HM2 : Hid (∀ W : World, Below u.heap.size u W → Calls Try.prog 39 #[.slice a2 n2 c2, .int .i64 21] W fun e W' => ∃ xm nm cm, e = .returned (.slice xm nm cm) ∧ nm = b.length ∧ Da W' b xm cm ∧ Below W.heap.size W W') := HM2
  have HM3 : Hid (∀ W : World, Below u.heap.size u W → Calls Try.prog 39 #[.slice a3 n3 c3, .int .i64 21] W fun e W' => ∃ xm nm cm, e = .returned (.slice xm nm cm) ∧ nm = c.length ∧ Da W' c xm cm ∧ Below W.heap.size W W') := HM3
  have oa : V.Ok a := ⟨hla.1, by omega⟩
  have ob : V.Ok b := ⟨hlb.1, by omega⟩
  have oc : V.Ok c := ⟨hlc.1, by omega⟩
  have lab := len_two hla.2 hlb.2
  have lbc := len_two hlb.2 hlc.2
  have lmc := len_two lab hlc.2
  have laq := len_two hla.2 lbc
  have om := mrg_ok oa ob (by omega)
  have oq := mrg_ok ob oc (by omega)
  have op := mrg_ok om oc (by omega)
  have hba := V.mrg_comm ob.toVec oa.toVec
  -- what is asked
  have E1 := hide (max_ok oa ob (by omega))
  have E2 : Hid (maxV b a = (V.mrg a b, 0)) := by rw [max_ok ob oa (by rw [hba]; omega), hba]; exact rfl
  have E3 := hide (max_ok om oc (by omega))
  have E4 := hide (max_ok ob oc (by omega))
  have E5 : Hid (maxV a (V.mrg b c) = (V.mrg (V.mrg a b) c, 0)) := by rw [max_ok oa oq (by omega), V.mrg_assoc oa.toVec ob.toVec oc.toVec]; exact rfl
  have E6 : Hid (maxV a a = (a, 0)) := by rw [max_ok oa oa (by rw [V.mrg_self oa.toVec]; omega), V.mrg_self oa.toVec]; exact rfl
  have E7 : Hid (maxV [] a = (a, 0)) := by rw [max_ok ok_nil oa (by rw [V.nil_mrg]; omega), V.nil_mrg]; exact rfl
  have B1 : Hid (belB a (V.mrg a b) = true) := (belB_true oa om).2 ((V.bel_mrg oa.toVec ob.toVec).1 fun _ => Nat.le_refl _).1
  have B2 : Hid (belB b (V.mrg a b) = true) := (belB_true ob om).2 ((V.bel_mrg oa.toVec ob.toVec).1 fun _ => Nat.le_refl _).2
  have B3 : Hid (belB a a = true) := (belB_true oa oa).2 fun _ => Nat.le_refl _
  have B4 : Hid (V.okB (V.mrg a b) = true) := V.okB_true.2 om
  have B5 : Hid (belB (V.mrg a b) c = (belB a c && belB b c)) := by
    show _ = _
    rw [Bool.eq_iff_iff, Bool.and_eq_true, belB_true om oc, belB_true oa oc, belB_true ob oc]
    exact V.bel_mrg oa.toVec ob.toVec
  have B6 : Hid (belB a b = true → belB b c = true → belB a c = true) := fun h1 h2 => by
    rw [belB_true oa ob] at h1
    rw [belB_true ob oc] at h2
    rw [belB_true oa oc]
    exact fun k => Nat.le_trans (h1 k) (h2 k)
  have B7 : Hid (decide (a = b) = (belB a b && belB b a)) := by
    show _ = _
    rw [Bool.eq_iff_iff, Bool.and_eq_true, belB_true oa ob, belB_true ob oa, decide_eq_true_iff]
    exact ⟨fun e => by subst e; exact ⟨fun _ => Nat.le_refl _, fun _ => Nat.le_refl _⟩, fun h => V.bel_antisymm oa.toVec ob.toVec h.1 h.2⟩
  have B8 : Hid (decide (V.mrg a b = b) = belB a b) := by
    show _ = _
    rw [Bool.eq_iff_iff, belB_true oa ob, decide_eq_true_iff]
    exact V.mrg_eq_iff oa.toVec ob.toVec
  clear h1 h2 h3 hla hlb hlc oa ob oc lab lbc lmc laq om oq op hba
  generalize V.mrg (V.mrg a b) c = p at *
  generalize V.mrg a b = m at *
  generalize V.mrg b c = q at *
  generalize hac : belB a c = bac at *
  generalize hbc : belB b c = bbc at *
  generalize hmc : belB m c = bmc at *
  generalize hab : belB a b = bab at *
  generalize hba : belB b a = bba at *
  have HAC := hide hac
  have HBC := hide hbc
  have HMC := hide hmc
  have HAB := hide hab
  have HBA := hide hba
  clear hac hbc hmc hab hba
  obtain ⟨N, hN⟩ : ∃ N, N = u.heap.size := ⟨_, rfl⟩
  have HN := hide hN
  rw [← hN] at HW HM1 HM2 HM3 ⊢
  clear hN hn1 hn2 hn3
  have HBX : Hid (Below N u u) := Below.refl _ _
  go_enter Try.func7, Try.ntmps7
  go_upto_region 6 with (first
    | (go_at_call 38; refine (unhide HW _ (unhide HBX)).mono ?_; rintro e w1 ⟨rfl, hb1⟩; have HBY : Hid (Below N u w1) := (unhide HBX).trans (hb1.mono (by rw [unhide HN]; exact (unhide HBX).size)); clear HBX; have HBX := HBY; clear HBY; clear hb1)
    | (go_at_call_of 39 (Value.slice a1 n1 c1); have _t := HM1; refine (unhide HM1 _ (unhide HBX)).mono ?_; rintro e w2 ⟨xa, na, ca, rfl, en, hd, hb1⟩; have HBY : Hid (Below N u w2) := (unhide HBX).trans (hb1.mono (by rw [unhide HN]; exact (unhide HBX).size)); clear HBX; have HBX := HBY; clear HBY; have HA := hide hd; have EA := hide en; clear hb1 hd en HM1 _t)
    | (go_at_call_of 39 (Value.slice a2 n2 c2); have _t := HM2; refine (unhide HM2 _ (unhide HBX)).mono ?_; rintro e w3 ⟨xb, nb, cb, rfl, en, hd, hb1⟩; have HBY : Hid (Below N u w3) := (unhide HBX).trans (hb1.mono (by rw [unhide HN]; exact (unhide HBX).size)); clear HBX; have HBX := HBY; clear HBY; replace HA := hide ((unhide HA).below hb1); have HB := hide hd; have EB := hide en; clear hb1 hd en HM2 _t)
    | (go_at_call 39; refine (unhide HM3 _ (unhide HBX)).mono ?_; rintro e w4 ⟨xc, nc, cc, rfl, en, hd, hb1⟩; have HBY : Hid (Below N u w4) := (unhide HBX).trans (hb1.mono (by rw [unhide HN]; exact (unhide HBX).size)); clear HBX; have HBX := HBY; clear HBY; replace HA := hide ((unhide HA).below hb1); replace HB := hide ((unhide HB).below hb1); have HC := hide hd; have EC := hide en; clear hb1 hd en HM3)
    | fail)
  have HX1 := hide (kMax m 0 (unhide E1) (unhide EA) (unhide EB) (unhide HA) (unhide HB) w4 (Below.refl _ _))
  go_upto_region 7 with (first
    | (go_at_call 20; refine (unhide HX1).mono ?_; rintro e w5 ⟨xm, nm, cm, rfl, en, hd, hb1⟩; have HBY : Hid (Below N u w5) := (unhide HBX).trans (hb1.mono (by rw [unhide HN]; exact (unhide HBX).size)); clear HBX; have HBX := HBY; clear HBY; replace HA := hide ((unhide HA).below hb1); replace HB := hide ((unhide HB).below hb1); replace HC := hide ((unhide HC).below hb1); have HM := hide hd; have EM := hide en; clear hb1 hd en)
    | fail)
  have HX2 := hide (kMax m 0 (unhide E2) (unhide EB) (unhide EA) (unhide HB) (unhide HA) w5 (Below.refl _ _))
  go_upto_region 8 with (first
    | (go_at_call 20; refine (unhide HX2).mono ?_; rintro e w6 ⟨xn, nn, cn, rfl, en, hd, hb1⟩; have HBY : Hid (Below N u w6) := (unhide HBX).trans (hb1.mono (by rw [unhide HN]; exact (unhide HBX).size)); clear HBX; have HBX := HBY; clear HBY; replace HA := hide ((unhide HA).below hb1); replace HB := hide ((unhide HB).below hb1); replace HC := hide ((unhide HC).below hb1); replace HM := hide ((unhide HM).below hb1); have HNN := hide hd; have EN := hide en; clear hb1 hd en)
    | fail)
  clear HX1 HX2 E1 E2 HW H1 H2 H3
  have Q1 := hide (kSame true (decide_eq_true rfl) (unhide EM) (unhide EN) (unhide HM) (unhide HNN))
  have Q2 := hide (kValid true (unhide B4) (unhide EM) (unhide HM))
  have Q3 := hide (kBelow true (unhide B1) (unhide EA) (unhide EM) (unhide HA) (unhide HM))
  have Q4 := hide (kBelow true (unhide B2) (unhide EB) (unhide EM) (unhide HB) (unhide HM))
  have Q5 := hide (kBelow true (unhide B3) (unhide EA) (unhide EA) (unhide HA) (unhide HA))
  have Q6 := hide (kBelow bac (unhide HAC) (unhide EA) (unhide EC) (unhide HA) (unhide HC))
  have Q7 := hide (kBelow bbc (unhide HBC) (unhide EB) (unhide EC) (unhide HB) (unhide HC))
  have Q8 := hide (kBelow bmc (unhide HMC) (unhide EM) (unhide EC) (unhide HM) (unhide HC))
  have Q9 := hide (kBelow bab (unhide HAB) (unhide EA) (unhide EB) (unhide HA) (unhide HB))
  have QA := hide (kBelow bba (unhide HBA) (unhide EB) (unhide EA) (unhide HB) (unhide HA))
  have QB := hide (kSame _ (unhide B7) (unhide EA) (unhide EB) (unhide HA) (unhide HB))
  have QC := hide (kSame _ (unhide B8) (unhide EM) (unhide EB) (unhide HM) (unhide HB))
  obtain ⟨Z, hZ⟩ : ∃ Z, Z = w6.heap.size := ⟨_, rfl⟩
  have HZ := hide hZ
  rw [← hZ] at Q1 Q2 Q3 Q4 Q5 Q6 Q7 Q8 Q9 QA QB QC
  clear hZ
  have HB0 : Hid (Below Z w6 w6) := Below.refl _ _
  go_upto_region 10 with (first
    | (go_at_call 42; (first | (with_reducible refine (unhide Q3 _ (unhide HB0)).mono ?_) | (with_reducible refine (unhide Q4 _ (unhide HB0)).mono ?_) | (with_reducible refine (unhide Q5 _ (unhide HB0)).mono ?_) | (with_reducible refine (unhide Q6 _ (unhide HB0)).mono ?_) | (with_reducible refine (unhide Q7 _ (unhide HB0)).mono ?_) | (with_reducible refine (unhide Q8 _ (unhide HB0)).mono ?_) | (with_reducible refine (unhide Q9 _ (unhide HB0)).mono ?_) | (with_reducible refine (unhide QA _ (unhide HB0)).mono ?_)); rintro e wx ⟨rfl, hb1⟩; clear HB0; have HB0 := hide hb1; clear hb1)
    | (go_at_call 40; (first | (with_reducible refine (unhide Q1 _ (unhide HB0)).mono ?_) | (with_reducible refine (unhide QB _ (unhide HB0)).mono ?_) | (with_reducible refine (unhide QC _ (unhide HB0)).mono ?_)); rintro e wx ⟨rfl, hb1⟩; clear HB0; have HB0 := hide hb1; clear hb1)
    | (go_at_call 41; (first | (with_reducible refine (unhide Q2 _ (unhide HB0)).mono ?_)); rintro e wx ⟨rfl, hb1⟩; clear HB0; have HB0 := hide hb1; clear hb1)
    | fail)
  clear Q1 Q2 Q3 Q4 Q5
  go_cut [101] (fun s101 wx => s101 = .bool false ∧ Hid (Below Z w6 wx))
  case first =>
    have h5 := unhide B5
    subst h5
    cases bac <;> cases bbc
    all_goals
      go_wp2_with (first
        | (go_at_call 42; (first | (with_reducible refine (unhide Q6 _ (unhide HB0)).mono ?_) | (with_reducible refine (unhide Q7 _ (unhide HB0)).mono ?_) | (with_reducible refine (unhide Q8 _ (unhide HB0)).mono ?_)); rintro e wx ⟨rfl, hb1⟩; clear HB0; have HB0 := hide hb1; clear hb1)
        | fail)
      go_meet
      exact ⟨rfl, unhide HB0⟩
  case rest =>
    obtain ⟨rfl, HC0⟩ := hcut
    clear HB0
    have HB0 := HC0
    go_upto_region 12 with fail
    go_cut [138] (fun s138 wx => s138 = .bool false ∧ Hid (Below Z w6 wx))
    case first =>
      cases bab <;> cases bbc <;> cases bac <;> cases bba
      all_goals first
        | exact absurd (unhide B6 rfl rfl) (by decide)
        | (go_wp2_with (first
            | (go_at_call 42; (first | (with_reducible refine (unhide Q6 _ (unhide HB0)).mono ?_) | (with_reducible refine (unhide Q7 _ (unhide HB0)).mono ?_) | (with_reducible refine (unhide Q9 _ (unhide HB0)).mono ?_) | (with_reducible refine (unhide QA _ (unhide HB0)).mono ?_)); rintro e wx ⟨rfl, hb1⟩; clear HB0; have HB0 := hide hb1; clear hb1)
            | (go_at_call 40; (first | (with_reducible refine (unhide QB _ (unhide HB0)).mono ?_) | (with_reducible refine (unhide QC _ (unhide HB0)).mono ?_)); rintro e wx ⟨rfl, hb1⟩; clear HB0; have HB0 := hide hb1; clear hb1)
            | fail)
           go_meet
           exact ⟨rfl, unhide HB0⟩)
    case rest =>
      obtain ⟨rfl, HC1⟩ := hcut
      replace HA := hide ((unhide HA).below (by rw [← unhide HZ]; exact unhide HC1))
      replace HB := hide ((unhide HB).below (by rw [← unhide HZ]; exact unhide HC1))
      replace HC := hide ((unhide HC).below (by rw [← unhide HZ]; exact unhide HC1))
      replace HM := hide ((unhide HM).below (by rw [← unhide HZ]; exact unhide HC1))
      replace HBX : Hid (Below N u wc) := (unhide HBX).trans ((unhide HC1).mono (by rw [unhide HZ, unhide HN]; exact (unhide HBX).size))
      clear HB0 HC0 HC1 HZ Q6 Q7 Q8 Q9 QA QB QC B1 B2 B3 B4 B5 B6 B7 B8 HAC HBC HMC HAB HBA HNN EN HM1 HM2 HM3
      have X1 := hide (kMax p 0 (unhide E3) (unhide EM) (unhide EC) (unhide HM) (unhide HC) wc (Below.refl _ _))
      go_upto_region 15 with (first
        | (go_at_call 20; refine (unhide X1).mono ?_; rintro e w7 ⟨xp, np, cp, rfl, en, hd, hb1⟩; have HBY : Hid (Below N u w7) := (unhide HBX).trans (hb1.mono (by rw [unhide HN]; exact (unhide HBX).size)); clear HBX; have HBX := HBY; clear HBY; replace HA := hide ((unhide HA).below hb1); replace HB := hide ((unhide HB).below hb1); replace HC := hide ((unhide HC).below hb1); replace HM := hide ((unhide HM).below hb1); have HP := hide hd; have EP := hide en; clear hb1 hd en)
        | fail)
      have X2 := hide (kMax q 0 (unhide E4) (unhide EB) (unhide EC) (unhide HB) (unhide HC) w7 (Below.refl _ _))
      go_upto_region 16 with (first
        | (go_at_call 20; refine (unhide X2).mono ?_; rintro e w8 ⟨xq, nq, cq, rfl, en, hd, hb1⟩; have HBY : Hid (Below N u w8) := (unhide HBX).trans (hb1.mono (by rw [unhide HN]; exact (unhide HBX).size)); clear HBX; have HBX := HBY; clear HBY; replace HA := hide ((unhide HA).below hb1); replace HB := hide ((unhide HB).below hb1); replace HC := hide ((unhide HC).below hb1); replace HM := hide ((unhide HM).below hb1); replace HP := hide ((unhide HP).below hb1); have HQ := hide hd; have EQ := hide en; clear hb1 hd en)
        | fail)
      have X3 := hide (kMax p 0 (unhide E5) (unhide EA) (unhide EQ) (unhide HA) (unhide HQ) w8 (Below.refl _ _))
      go_upto_region 17 with (first
        | (go_at_call 20; refine (unhide X3).mono ?_; rintro e w9 ⟨xr, nr, cr, rfl, en, hd, hb1⟩; have HBY : Hid (Below N u w9) := (unhide HBX).trans (hb1.mono (by rw [unhide HN]; exact (unhide HBX).size)); clear HBX; have HBX := HBY; clear HBY; replace HA := hide ((unhide HA).below hb1); replace HB := hide ((unhide HB).below hb1); replace HC := hide ((unhide HC).below hb1); replace HM := hide ((unhide HM).below hb1); replace HP := hide ((unhide HP).below hb1); replace HQ := hide ((unhide HQ).below hb1); have HR := hide hd; have ER := hide en; clear hb1 hd en)
        | fail)
      have X4 := hide (kMax a 0 (unhide E6) (unhide EA) (unhide EA) (unhide HA) (unhide HA) w9 (Below.refl _ _))
      go_upto_region 18 with (first
        | (go_at_call 20; refine (unhide X4).mono ?_; rintro e w10 ⟨xs, ns, cs, rfl, en, hd, hb1⟩; have HBY : Hid (Below N u w10) := (unhide HBX).trans (hb1.mono (by rw [unhide HN]; exact (unhide HBX).size)); clear HBX; have HBX := HBY; clear HBY; replace HA := hide ((unhide HA).below hb1); replace HB := hide ((unhide HB).below hb1); replace HC := hide ((unhide HC).below hb1); replace HM := hide ((unhide HM).below hb1); replace HP := hide ((unhide HP).below hb1); replace HR := hide ((unhide HR).below hb1); have HS := hide hd; have ES := hide en; clear hb1 hd en)
        | fail)
      have X5 := hide (kMax a 0 (unhide E7) (na := 0) rfl (unhide EA) (da_none w10) (unhide HA) w10 (Below.refl _ _))
      go_upto_region 19 with (first
        | (go_at_call 20; refine (unhide X5).mono ?_; rintro e w11 ⟨xz, nz, cz, rfl, en, hd, hb1⟩; have HBY : Hid (Below N u w11) := (unhide HBX).trans (hb1.mono (by rw [unhide HN]; exact (unhide HBX).size)); clear HBX; have HBX := HBY; clear HBY; replace HA := hide ((unhide HA).below hb1); replace HP := hide ((unhide HP).below hb1); replace HR := hide ((unhide HR).below hb1); replace HS := hide ((unhide HS).below hb1); have HZZ := hide hd; have EZ := hide en; clear hb1 hd en)
        | fail)
      have Q1 := hide (kSame true (decide_eq_true rfl) (unhide EP) (unhide ER) (unhide HP) (unhide HR))
      have Q2 := hide (kSame true (decide_eq_true rfl) (unhide ES) (unhide EA) (unhide HS) (unhide HA))
      have Q3 := hide (kSame true (decide_eq_true rfl) (unhide EZ) (unhide EA) (unhide HZZ) (unhide HA))
      have HB0 := hide (Below.refl w11.heap.size w11)
      go_wp2_with (first
        | (go_at_call 40; (first | (with_reducible refine (unhide Q1 _ (unhide HB0)).mono ?_) | (with_reducible refine (unhide Q2 _ (unhide HB0)).mono ?_) | (with_reducible refine (unhide Q3 _ (unhide HB0)).mono ?_)); rintro e wx ⟨rfl, hb1⟩; clear HB0; have HB0 := hide hb1; clear hb1)
        | fail)
      go_ret
      exact ⟨rfl, (unhide HBX).trans ((unhide HB0).mono (by rw [unhide HN]; exact (unhide HBX).size))⟩
end Go.Proofs.Ytajflgonhomkfaa
