/- The walk of JournalWhole. -/
import Derived.Test.YtfdfbjijomepgaaDoorJrb
namespace Go.Proofs.YtfdfbjijomepgaaDoor
open Go.RowKit

/-- what was told, and a block that keeps it -/
theorem Sd.told {w0 w w' : World} {B Dd M : Nat} {om : Obj} {F : List Nat} {d : D.Dk} {ks : List (Nat × Obj)} {pg : Nat → List UInt8} {f c : Nat} {wh : Bool} {sr n : Nat} {p : Option Addr} (h : Sd w0 w B Dd F d ((M, om) :: ks)) (ht : Told w' w.heap.size pg f c wh sr p n) (hb : Below w.heap.size w w') : ∃ gk ok, Sd w0 w' B Dd F d ((gk, ok) :: (M, om) :: ks) ∧ ∀ u : World, u.heap[gk]? = some ok → Told u w.heap.size pg f c wh sr p n := by
  have h2 := h.below hb
  rcases ht with ⟨h1, h3, h4, h5, G, h6, h7, h8⟩ | ht
  · obtain ⟨cs, hc, hr⟩ := h8
    exact ⟨G, _, h.new hb hc h7, fun u hu => .inl ⟨h1, h3, h4, h5, G, h6, h7, cs, hu, hr⟩⟩
  · exact ⟨M, om, h2.add (h2.get 0 rfl) (h2.out 0 rfl), fun u _ => .inr ht⟩
theorem batchL_le (h : Pg) (slots : List Pg) : (batchL h slots).length ≤ slots.length := by
  rw [batchL, fillK_len]
  exact listed_len _ _
theorem Sd.none {w0 w : World} {B Dd : Nat} {F : List Nat} {d : D.Dk} {ks : List (Nat × Obj)} (h : Sd w0 w B Dd F d ks) : Sd w0 w B Dd F d [] := ⟨h.dsk, h.hB, h.b0, h.tab, h.bel, h.w0B, fun p hp => by cases hp⟩
/-- what a loop of JournalWhole keeps -/
def WI (w wr : World) (B Dd f c k : Nat) (F : List Nat) (d : D.Dk) : Prop := Sd w wr B Dd F d [] ∧ d.off = false ∧ d.pend = [] ∧ d.fuse = -1 ∧ d.lies.length = 12 ∧ topK (pgOf d.lies) f c ≤ 301 * k
theorem WI.lit {w wr : World} {B Dd f c k : Nat} {F : List Nat} {d : D.Dk} (h : WI w wr B Dd f c k F d) : Lit d := ⟨h.1.dsk.ok, h.2.1, h.2.2.1, h.2.2.2.1⟩
set_option maxRecDepth 100000 in
set_option maxHeartbeats 16000000 in
theorem whole6_walk (w : World) (hT : Tab w) (fi ci : Int) (R : List Rnd) (n : Nat) (hn : n = R.length) (ao : Option Addr) (cap : Nat) (hR : Rnds w ao R) : Calls Tryd.prog 4 #[.int .i64 fi, .int .i64 ci, .slice ao n cap] w fun e w' => e = .returned (.bool true) ∧ Below w.heap.size w w' := by
  have HT := hide hT
  have HR := hide hR
  have HN := hide hn
  obtain ⟨f, hf0, hf1, hmf⟩ := lModA fi 0 3 (by decide) (by decide) (by decide)
  obtain ⟨c, hc0, hc1, hmc⟩ := lModA ci 3 9 (by decide) (by decide) (by decide)
  have HMF := hide hmf
  have HMC := hide hmc
  clear hT hR hmf hmc hn
  go_enter Tryd.func4, Tryd.ntmps4
  go_wp2_with fail
  refine (D.dNew 12 (by decide) (by decide) w).mono ?_
  rintro e w6 ⟨Dd, F6, rfl, hd6, hb6⟩
  have HS6 : Hid (WI w w6 w.heap.size Dd f c 0 F6 (D.Dk.blank 12)) := by
    have hp := (unhide HT).pos
    refine ⟨⟨hd6, hb6.size, by omega, (unhide HT).below hb6 hp, hb6, Nat.le_refl _, fun p hp => by cases hp⟩, rfl, rfl, rfl, List.length_replicate, ?_⟩
    rw [show (D.Dk.blank 12).lies = List.replicate 12 (D.zeros 1024) from rfl, topK_blank 12 f c (by omega)]
    exact Nat.zero_le _
  clear hd6 hb6
  obtain ⟨B, hB⟩ : ∃ B, B = w.heap.size := ⟨_, rfl⟩
  rw [← hB] at HS6
  clear hB
  go_wp2_with fail
  refine (unhide HMF _).mono ?_
  rintro e u1 ⟨rfl, hw⟩
  obtain rfl := hw.symm
  clear hw
  go_wp2_with fail
  refine (unhide HMC _).mono ?_
  rintro e u1 ⟨rfl, hw⟩
  obtain rfl := hw.symm
  clear hw HMF HMC
  go_wp2_with fail
  go_loopw [9] (fun i wr => ∃ (k : Nat) (F : List Nat) (d : D.Dk), k ≤ n ∧ k ≤ 40 ∧ i = .int .i64 k ∧ Hid (WI w wr B Dd f c k F d)) (fun i _ => 40 - (intOf i).toNat)
  case atStart => exact ⟨0, _, _, Nat.zero_le _, by decide, rfl, unhide HS6⟩
  case round =>
    clear HS6
    obtain ⟨k, F, d, hk, hk4, rfl, HI⟩ := hrel
    by_cases hlt : k < n ∧ k < 40
    · have hki : (k : Int) < (n : Int) := by omega
      have hk40 : (k : Int) < 40 := by omega
      have hkl : k < R.length := by rw [← unhide HN]; exact hlt.1
      obtain ⟨g, o, hao, hrg⟩ := (unhide HR).1 (by omega)
      subst hao
      have hrk := hrg k hkl
      have hlie := (unhide HR).2 _ (List.getElem_mem hkl)
      have hbel := (unhide HI).1.bel
      have hix := ixRounds g o n cap k hlt.1
      generalize R[k] = q at *
      obtain ⟨lp, pa, pc, sk, fu, cm, kb, ka, kc, tn, ct⟩ := q
      obtain ⟨pn, hpn⟩ : ∃ pn, pn = lp.length := ⟨_, rfl⟩
      obtain ⟨kn, hkn⟩ : ∃ kn, kn = kb.length := ⟨_, rfl⟩
      have hgw : g < w.heap.size := World.block_lt_of_cell? w ⟨g, o + k * 7, none⟩ (hrk 0 _ rfl)
      have hcell : ∀ j v, (Rnd.cs ⟨lp, pa, pc, sk, fu, cm, kb, ka, kc, tn, ct⟩).toList[j]? = some v → wr.cell? ⟨g, o + k * 7 + j, none⟩ = some v := fun j v hv => (hbel.cell (p := ⟨g, o + k * 7 + j, none⟩) hgw).trans (hrk j v hv)
      have x0 : wr.cell? ⟨g, o + k * 7, none⟩ = some (.slice pa pn pc) := by rw [hpn]; exact hcell 0 _ rfl
      have x1 : wr.cell? ⟨g, o + k * 7 + 1, none⟩ = some (.int .i64 sk) := hcell 1 _ rfl
      have x2 : wr.cell? ⟨g, o + k * 7 + 2, none⟩ = some (.int .i64 fu) := hcell 2 _ rfl
      have x3 : wr.cell? ⟨g, o + k * 7 + 3, none⟩ = some (.bool cm) := hcell 3 _ rfl
      have x4 : wr.cell? ⟨g, o + k * 7 + 4, none⟩ = some (.slice ka kn kc) := by rw [hkn]; exact hcell 4 _ rfl
      have x5 : wr.cell? ⟨g, o + k * 7 + 5, none⟩ = some (.int .i64 tn) := hcell 5 _ rfl
      have x6 : wr.cell? ⟨g, o + k * 7 + 6, none⟩ = some (.int .i64 ct) := hcell 6 _ rfl
      generalize o + k * 7 = j7 at *
      have HLI := hide hlie
      have HPN := hide hpn
      have HKN := hide hkn
      obtain ⟨M, hM⟩ : ∃ M, M = wr.heap.size := ⟨_, rfl⟩
      have HM := hide hM
      obtain ⟨tp, htp⟩ : ∃ tp, tp = topK (pgOf d.lies) f c := ⟨_, rfl⟩
      have htp4 : (tp : Int) ≤ 12040 := by have := (unhide HI).2.2.2.2.2; omega
      have HTP := hide htp
      clear hrk hrg hlie hbel hcell hgw hkl hpn hkn hM htp
      go_wp2_with (first
        | (refine wpList_alloc_row (by rfl) 58 (by rfl) (some 10) (by rfl) M (by exact (unhide HM).symm) _ zeroRound ?_; intro W1 HX1 HC1 HS1; simp only [Act.put, List.setIfInBounds_toArray, List.set_cons_zero, List.set_cons_succ])
        | (refine wpList_store_hid (by rfl) 58 (.tmp 10) (.tmp 46) (by rfl) M #[.slice pa pn pc, .int .i64 sk, .int .i64 fu, .bool cm, .slice ka kn kc, .int .i64 tn, .int .i64 ct] (by rfl) (by rfl) 58 _ (unhide HX1) roundInfo rfl (round_one _ _ _ _ _ _ _ _ _ _ _) ?_; intro W2 HX2 HE2; simp only [Act.put])
        | fail)
      have HB2 : Hid (Below wr.heap.size wr W2) := by
        rw [unhide HE2]
        have h1 := unhide HC1
        rw [unhide HM] at h1 ⊢
        exact D.belowRow h1 (Nat.le_refl _) _
      have HS2 := hide ((unhide HI).1.new (unhide HB2) (unhide HX2) (Nat.le_of_eq (unhide HM).symm))
      clear HX1 HC1 HS1 HX2 HE2 HB2 x0 x1 x2 x3 x4 x5 x6 HM
      refine (sScan2 (unhide HS2) (unhide HI).lit f c (by omega) (by rw [(unhide HI).2.2.2.2.1]; omega)).mono ?_
      rintro e w3 ⟨wh, sr, p, n1, rfl, ht3, hb3⟩
      rw [← unhide HTP]
      obtain ⟨gk, ok, hS3, hT3⟩ := (unhide HS2).told ht3 hb3
      have HS3 := hide hS3
      have HT3 := hide hT3
      obtain ⟨N3, hN3⟩ : ∃ N, N = w3.heap.size := ⟨_, rfl⟩
      have HN3 := hide hN3
      clear ht3 hb3 hS3 hT3 hN3 HS2
      go_wp2_with (first
        | (refine wpList_alloc_row (by rfl) 44 (by rfl) (some 11) (by rfl) N3 (by exact (unhide HN3).symm) _ zeroFound ?_; intro W4 HX1 HC1 HS1; simp only [Act.put, List.setIfInBounds_toArray, List.set_cons_zero, List.set_cons_succ])
        | (refine wpList_store_hid (by rfl) 44 (.tmp 11) (.tmp 53) (by rfl) N3 #[.int .u64 (tp : Int), .bool wh, .int .u64 (sr : Int), .slice p n1 n1] (by rfl) (by rfl) 44 _ (unhide HX1) foundInfo rfl (found_one _ _ _ _ _ _) ?_; intro W5 HX2 HE2; simp only [Act.put])
        | fail)
      have HB5 : Hid (Below w3.heap.size w3 W5) := by
        rw [unhide HE2]
        have h1 := unhide HC1
        rw [unhide HN3] at h1 ⊢
        exact D.belowRow h1 (Nat.le_refl _) _
      have HS5 := hide ((unhide HS3).new (unhide HB5) (unhide HX2) (Nat.le_of_eq (unhide HN3).symm))
      clear HX1 HC1 HS1 HX2 HE2 HB5 HN3 HS3
      obtain ⟨r, hr⟩ : ∃ r, r = roomN c := ⟨_, rfl⟩
      have hr198 : r ≤ 198 ∧ r + 1 ≤ c := by rw [hr]; unfold roomN; omega
      have HRM := hide (fun v : World => roomAt (c : Int) (r : Int) (by omega) (by rw [hr]; exact room_nat) v)
      have HFT : Hid (∀ v : World, (Below W5.heap.size W5 v ∧ v.heap.size = W5.heap.size) → Calls Tryd.prog 16 #[.slice pa pn pc, .int .i64 (r : Int)] v fun e w' => ∃ (l : List Pg) (x : Value), e = .returned x ∧ Fits r l ∧ w'.ownsRow W5.heap.size 70 4 x l.length (flatP l) ∧ Below W5.heap.size W5 w') := fun v hv => by
        have h1 := lFit lp pn r (unhide HPN) (by rw [unhide HPN]; exact (unhide HLI).len) hr198.1 (unhide HLI).fit pa pc v (((unhide HS5).lent (unhide HLI).pages).below hv.1)
        refine h1.mono ?_
        rintro e w' ⟨l, x, a1, a2, a3, a4⟩
        rw [hv.2] at a3 a4
        exact ⟨l, x, a1, a2, a3, hv.1.trans a4⟩
      have HRR := hide hr
      clear hr
      have z0 : W5.cell? ⟨M, 0, none⟩ = some (.slice pa pn pc) := cellOf ((unhide HS5).get 2 rfl) 0
      have HZ0 : Hid (∀ u, Below W5.heap.size W5 u → u.cell? ⟨M, 0, none⟩ = some (.slice pa pn pc)) := fun u hu => cellOf (((unhide HS5).below hu).get 2 rfl) 0
      go_region_held3 (fun u => u.cell? ⟨M, 0, none⟩ = some (.slice pa pn pc)) (first | exact z0 | exact y0 | (go_keep; done)) (first | (go_at_call 17; refine (unhide HRM _).mono ?_; rintro e u1 ⟨rfl, hw⟩; obtain rfl := hw) | (go_at_call 16; refine (unhide HFT _ (by exact ⟨⟨rfl, rfl, rfl, Nat.le_refl _, fun _ _ => rfl⟩, rfl⟩)).mono ?_; rintro e w6 ⟨l, x6, rfl, hft, how, hb6⟩; have y0 := unhide HZ0 w6 hb6; have HF6 := hide hft; have HO6 := hide how; have HB6 := hide hb6; clear hft how hb6))
      obtain ⟨gl, ol, bo, cb, rfl, hS6, hO⟩ := ((unhide HS5).below (unhide HB6)).own (fun k hk => ((unhide HS5).dsk.ge k hk).2) (unhide HO6)
      have HS6 := hide hS6
      have HOW := hide hO
      obtain ⟨m, hm0, hm3, hmm⟩ := lModA sk 0 300 (by decide) (by decide) (by decide)
      have HMM := hide hmm
      obtain ⟨ln, hln⟩ : ∃ ln, ln = l.length := ⟨_, rfl⟩
      rw [← hln]
      have HLN := hide hln
      have hln8 : ln ≤ r := by rw [hln]; exact (unhide HF6).len
      have t0 : w6.cell? ⟨N3, 0, none⟩ = some (.int .u64 (tp : Int)) := cellOf (hS6.get 1 rfl) 0
      have s1 : w6.cell? ⟨M, 1, none⟩ = some (.int .i64 sk) := cellOf (hS6.get 3 rfl) 1
      clear hS6 hO HO6 HB6 HS5 HFT HRM y0 z0 HZ0 hln hmm
      go_wp2_with fail
      go_quiet (first | exact Calls.quiet_of_same (unhide HMM _))
      have HS7 := hide ((unhide HS6).below (belowDN (Below.refl _ _) nq))
      generalize w6.drewN nq = w7 at *
      clear HS6 t0 s1 HMM
      go_wp2_with fail
      obtain ⟨s, hs⟩ : ∃ s, s = tp + 1 + m := ⟨_, rfl⟩
      have hsi : (tp : Int) + 1 + (m : Int) = (s : Int) := by omega
      rw [hsi]
      have HSS := hide hs
      have hs62 : s ≤ 12400 := by omega
      clear hs hsi
      obtain ⟨GW, hGW⟩ : ∃ GW, GW = w7.heap.size := ⟨_, rfl⟩
      refine (sDurable (unhide HS7) 12 (unhide HI).2.2.2.2.1).mono ?_
      rintro e w8 ⟨rfl, hS8, _⟩
      rw [← hGW] at hS8 ⊢
      have HS8 := hide hS8
      have s2 : w8.cell? ⟨M, 2, none⟩ = some (.int .i64 fu) := cellOf (hS8.get 4 rfl) 2
      clear hS8 HS7 hGW
      go_wp2_with fail
      refine (sFuse (unhide HS8) fu (unhide HLI).fuse).mono ?_
      rintro e w9 ⟨rfl, hS9⟩
      have HS9 := hide hS9
      clear hS9 HS8 s2
      go_wp2_with fail
      refine (lTwin l ln (unhide HLN).symm (by omega) _ _ w9 (by rw [unhide HLN]; exact (unhide HOW w9 ((unhide HS9).get 1 rfl)).1)).mono ?_
      rintro e w10 ⟨gt, tc, rfl, hgt, hpt, hb10⟩
      have HS10 := hide ((unhide HS9).below hb10)
      have HPT := hide hpt
      have HGT : Hid (gt ∉ F) := fun hx => by have := ((unhide HS9).dsk.ge gt hx).2; omega
      clear hgt hpt hb10 HS9
      have hwo : wrongOk s l ((roomN c : Nat) : Int) := ⟨by have := unhide HSS; omega, by omega, by rw [← unhide HRR]; have := (unhide HF6).len; omega, (unhide HF6).up, (unhide HF6).body⟩
      have HPRE : Hid (Pre (pgOf d.lies) f c s l) := pre_of (unhide HI).lit (by omega) (by rw [(unhide HI).2.2.2.2.1]; omega) (by rw [← unhide HTP, unhide HSS]; omega) hwo (unhide HF6).fit
      have HNC : Hid (l.length + 1 ≤ c ∧ f + c ≤ d.lies.length) := ⟨by rw [← unhide HLN]; omega, by rw [(unhide HI).2.2.2.2.1]; omega⟩
      obtain ⟨e, d1, hpe, hpa⟩ := put_any (unhide HI).lit fu (by omega) (unhide HNC).2 hwo
      have HPE := hide hpe
      have HPA := hide hpa
      clear hwo hpe
      go_wp2_with fail
      refine (sPutA (unhide HS10) (by rw [show (d.fused fu).pend = [] by rw [D.Dk.fused, (unhide HI).2.1]; exact (unhide HI).2.2.1]; exact Nat.zero_le _) f c (by omega) s l (unhide HF6).fit ln (unhide HLN) (by omega) gt tc (unhide HPT) (unhide HGT) e d1 (unhide HPE)).mono ?_
      rintro e' w11 ⟨rfl, F1, hS11⟩
      have HS11 := hide hS11
      have q2 : w11.cell? ⟨M, 2, none⟩ = some (.int .i64 fu) := cellOf (hS11.get 4 rfl) 2
      have q3 : w11.cell? ⟨M, 3, none⟩ = some (.bool cm) := cellOf (hS11.get 4 rfl) 3
      have q4 : w11.cell? ⟨M, 4, none⟩ = some (.slice ka kn kc) := cellOf (hS11.get 4 rfl) 4
      have q5 : w11.cell? ⟨M, 5, none⟩ = some (.int .i64 tn) := cellOf (hS11.get 4 rfl) 5
      have q6 : w11.cell? ⟨M, 6, none⟩ = some (.int .i64 ct) := cellOf (hS11.get 4 rfl) 6
      clear hS11 HS10 HPT HGT HPE
      have he : (e = 0 ∨ (e = 40 ∧ 0 ≤ fu)) := by
        rcases hpa with ⟨h, _⟩ | ⟨h0, h, _⟩
        · exact .inl h
        · exact .inr ⟨h, h0⟩
      clear hpa
      rcases he with rfl | ⟨rfl, hfu⟩
      · by_cases hfn : fu < 0
        · cases cm
          · as_aux_lemma =>
            go_wp2_with fail
            have hpl : d1.pend.length ≤ 1000000000 := by
              rcases unhide HPA with ⟨_, _, h, _⟩ | ⟨_, _, j, hj, h⟩
              · rw [h]; exact Nat.zero_le _
              · rw [h]; show (pendK f s l j).length ≤ _; rw [pendK_len]; have := unhide HLN; omega
            refine (sCrash (unhide HS11) hpl ka kb kn (unhide HKN) kc tn ct (unhide HLI).ks).mono ?_
            rintro e' w12 ⟨rfl, F2, hS12⟩
            have HAF := hide (after_crash (unhide HNC).2 (unhide HNC).1 (unhide HPA) _ (share_8 kb tn ct))
            have HS12 := hide hS12
            generalize d1.crash (D.share kb tn ct) = d2 at *
            clear hS12 HS11 q2 q3 q4 q5 q6 HPA hpl
            go_wp2_with fail
            obtain ⟨tp2, htp2⟩ : ∃ tp2, tp2 = topK (pgOf d2.lies) f c := ⟨_, rfl⟩
            have HTP2 := hide htp2
            clear htp2
            refine (sScan2 (unhide HS12) ⟨(unhide HS12).dsk.ok, (unhide HAF).off, (unhide HAF).pend, (unhide HAF).fuse⟩ f c (by omega) (by rw [(unhide HAF).len]; exact (unhide HNC).2)).mono ?_
            rintro e' w13 ⟨wh2, sr2, p2, n2, rfl, ht13, hb13⟩
            rw [← unhide HTP2]
            have HS13 := hide ((unhide HS12).below hb13)
            have HT13 := hide ht13
            obtain ⟨N5, hN5⟩ : ∃ N, N = w13.heap.size := ⟨_, rfl⟩
            have HN5 := hide hN5
            clear ht13 hb13 hN5 HS12
            go_wp2_with (first
              | (refine wpList_alloc_row (by rfl) 44 (by rfl) (some 17) (by rfl) N5 (by exact (unhide HN5).symm) _ zeroFound ?_; intro W14 HX1 HC1 HS1; simp only [Act.put, List.setIfInBounds_toArray, List.set_cons_zero, List.set_cons_succ])
              | (refine wpList_store_hid (by rfl) 44 (.tmp 17) (.tmp 118) (by rfl) N5 #[.int .u64 (tp2 : Int), .bool wh2, .int .u64 (sr2 : Int), .slice p2 n2 n2] (by rfl) (by rfl) 44 _ (unhide HX1) foundInfo rfl (found_one _ _ _ _ _ _) ?_; intro W15 HX2 HE2; simp only [Act.put])
              | fail)
            have HB15 : Hid (Below w13.heap.size w13 W15) := by
              rw [unhide HE2]
              have h1 := unhide HC1
              rw [unhide HN5] at h1 ⊢
              exact D.belowRow h1 (Nat.le_refl _) _
            have HS15 := hide ((unhide HS13).new (unhide HB15) (unhide HX2) (Nat.le_of_eq (unhide HN5).symm))
            have HT15 := hide ((unhide HT13).below (unhide HB15))
            clear HX1 HC1 HS1 HX2 HE2 HB15 HN5 HS13 HT13
            obtain ⟨GD, hGD⟩ : ∃ GD, GD = W15.heap.size := ⟨_, rfl⟩
            refine (sDurable (unhide HS15) 12 ((unhide HAF).len.trans (unhide HI).2.2.2.2.1)).mono ?_
            rintro e' w16 ⟨rfl, hS16, hb16⟩
            rw [← hGD] at hS16 ⊢
            have HS16 := hide hS16
            have HT16 := hide ((unhide HT15).below hb16)
            clear hS16 hb16 hGD HS15 HT15
            go_wp2_with fail
            refine (lOutside GW GD d.lies d2.lies 12 f ln w16 ((unhide HS16).get 2 rfl) ((unhide HS16).get 0 rfl) (unhide HI).2.2.2.2.1 ((unhide HAF).len.trans (unhide HI).2.2.2.2.1) (by decide) (by omega) (fun i _ hi => (unhide HAF).other i (by rw [← unhide HLN]; exact hi))).mono ?_
            rintro e' w17 ⟨rfl, hb17⟩
            have HS17 := hide ((unhide HS16).below hb17)
            have HT17 := hide ((unhide HT16).below hb17)
            clear hb17 HS16 HT16
            have r0 : w17.cell? ⟨N5, 0, none⟩ = some (.int .u64 (tp2 : Int)) := cellOf ((unhide HS17).get 1 rfl) 0
            have r1 : w17.cell? ⟨N5, 1, none⟩ = some (.bool wh2) := cellOf ((unhide HS17).get 1 rfl) 1
            have r2 : w17.cell? ⟨N5, 2, none⟩ = some (.int .u64 (sr2 : Int)) := cellOf ((unhide HS17).get 1 rfl) 2
            have r3 : w17.cell? ⟨N5, 3, none⟩ = some (.slice p2 n2 n2) := cellOf ((unhide HS17).get 1 rfl) 3
            have o0 : w17.cell? ⟨N3, 0, none⟩ = some (.int .u64 (tp : Int)) := cellOf ((unhide HS17).get 4 rfl) 0
            have hfull := Stp.full (unhide HPRE) ((unhide HAF).full rfl)
            obtain rfl : tp2 = s := (unhide HTP2).trans hfull.2.2.2
            rcases unhide HT17 with ⟨h1, h2, h3, h4, G, h5, h6, h7⟩ | ⟨_, h2, _⟩
            · rw [hfull.2.1] at h4 h7
              rw [hfull.2.2.1] at h3
              rw [withSer_len] at h4
              subst h1 h3 h5
              have hn2 : n2 = ln := h4.trans (unhide HLN).symm
              subst hn2
              have HR7 := hide h7
              clear h2 h4 h6 h7 hfull
              go_wp2_with fail
              have hlis := lIsT sr2 sr2 l (by rw [← unhide HLN]; omega) G bo cb w17 (unhide HR7).pgs ((unhide HOW w17 ((unhide HS17).get 3 rfl)).2)
              rw [← unhide HLN] at hlis
              refine hlis.mono ?_
              rintro e' w18 ⟨rfl, hb18⟩
              have HS18 := hide ((unhide HS17).below hb18)
              have r0' : w18.cell? ⟨N5, 0, none⟩ = some (.int .u64 (sr2 : Int)) := cellOf ((unhide HS18).get 1 rfl) 0
              clear hb18 hlis
              go_wp2
              go_roundw
              case rel => exact ⟨k + 1, F2, d2, by omega, by omega, by go_num, (unhide HS18).none, (unhide HAF).off, (unhide HAF).pend, (unhide HAF).fuse, (unhide HAF).len.trans (unhide HI).2.2.2.2.1, by rw [← unhide HTP2]; have h1 := (unhide HI).2.2.2.2.2; have h2 := unhide HTP; have h3 := unhide HSS; omega⟩
              case measure => simp [intOf]; omega
            · exact absurd hfull.1 h2
          · as_aux_lemma =>
            go_wp2_with fail
            refine (sFuse (unhide HS11) (-1) (by decide)).mono ?_
            rintro e' w12 ⟨rfl, hS12⟩
            have HAF := hide (after_calm (unhide HNC).2 (unhide HNC).1 (unhide HPA))
            have HS12 := hide hS12
            obtain ⟨F2, hF2⟩ : ∃ F2, F2 = F1 := ⟨_, rfl⟩
            rw [← hF2] at HS12
            generalize d1.fused (-1) = d2 at *
            clear hS12 HS11 q2 q3 q4 q5 q6 HPA hF2
            go_wp2_with fail
            obtain ⟨tp2, htp2⟩ : ∃ tp2, tp2 = topK (pgOf d2.lies) f c := ⟨_, rfl⟩
            have HTP2 := hide htp2
            clear htp2
            refine (sScan2 (unhide HS12) ⟨(unhide HS12).dsk.ok, (unhide HAF).off, (unhide HAF).pend, (unhide HAF).fuse⟩ f c (by omega) (by rw [(unhide HAF).len]; exact (unhide HNC).2)).mono ?_
            rintro e' w13 ⟨wh2, sr2, p2, n2, rfl, ht13, hb13⟩
            rw [← unhide HTP2]
            have HS13 := hide ((unhide HS12).below hb13)
            have HT13 := hide ht13
            obtain ⟨N5, hN5⟩ : ∃ N, N = w13.heap.size := ⟨_, rfl⟩
            have HN5 := hide hN5
            clear ht13 hb13 hN5 HS12
            go_wp2_with (first
              | (refine wpList_alloc_row (by rfl) 44 (by rfl) (some 17) (by rfl) N5 (by exact (unhide HN5).symm) _ zeroFound ?_; intro W14 HX1 HC1 HS1; simp only [Act.put, List.setIfInBounds_toArray, List.set_cons_zero, List.set_cons_succ])
              | (refine wpList_store_hid (by rfl) 44 (.tmp 17) (.tmp 118) (by rfl) N5 #[.int .u64 (tp2 : Int), .bool wh2, .int .u64 (sr2 : Int), .slice p2 n2 n2] (by rfl) (by rfl) 44 _ (unhide HX1) foundInfo rfl (found_one _ _ _ _ _ _) ?_; intro W15 HX2 HE2; simp only [Act.put])
              | fail)
            have HB15 : Hid (Below w13.heap.size w13 W15) := by
              rw [unhide HE2]
              have h1 := unhide HC1
              rw [unhide HN5] at h1 ⊢
              exact D.belowRow h1 (Nat.le_refl _) _
            have HS15 := hide ((unhide HS13).new (unhide HB15) (unhide HX2) (Nat.le_of_eq (unhide HN5).symm))
            have HT15 := hide ((unhide HT13).below (unhide HB15))
            clear HX1 HC1 HS1 HX2 HE2 HB15 HN5 HS13 HT13
            obtain ⟨GD, hGD⟩ : ∃ GD, GD = W15.heap.size := ⟨_, rfl⟩
            refine (sDurable (unhide HS15) 12 ((unhide HAF).len.trans (unhide HI).2.2.2.2.1)).mono ?_
            rintro e' w16 ⟨rfl, hS16, hb16⟩
            rw [← hGD] at hS16 ⊢
            have HS16 := hide hS16
            have HT16 := hide ((unhide HT15).below hb16)
            clear hS16 hb16 hGD HS15 HT15
            go_wp2_with fail
            refine (lOutside GW GD d.lies d2.lies 12 f ln w16 ((unhide HS16).get 2 rfl) ((unhide HS16).get 0 rfl) (unhide HI).2.2.2.2.1 ((unhide HAF).len.trans (unhide HI).2.2.2.2.1) (by decide) (by omega) (fun i _ hi => (unhide HAF).other i (by rw [← unhide HLN]; exact hi))).mono ?_
            rintro e' w17 ⟨rfl, hb17⟩
            have HS17 := hide ((unhide HS16).below hb17)
            have HT17 := hide ((unhide HT16).below hb17)
            clear hb17 HS16 HT16
            have r0 : w17.cell? ⟨N5, 0, none⟩ = some (.int .u64 (tp2 : Int)) := cellOf ((unhide HS17).get 1 rfl) 0
            have r1 : w17.cell? ⟨N5, 1, none⟩ = some (.bool wh2) := cellOf ((unhide HS17).get 1 rfl) 1
            have r2 : w17.cell? ⟨N5, 2, none⟩ = some (.int .u64 (sr2 : Int)) := cellOf ((unhide HS17).get 1 rfl) 2
            have r3 : w17.cell? ⟨N5, 3, none⟩ = some (.slice p2 n2 n2) := cellOf ((unhide HS17).get 1 rfl) 3
            have o0 : w17.cell? ⟨N3, 0, none⟩ = some (.int .u64 (tp : Int)) := cellOf ((unhide HS17).get 4 rfl) 0
            have hfull := Stp.full (unhide HPRE) ((unhide HAF).full rfl)
            obtain rfl : tp2 = s := (unhide HTP2).trans hfull.2.2.2
            rcases unhide HT17 with ⟨h1, h2, h3, h4, G, h5, h6, h7⟩ | ⟨_, h2, _⟩
            · rw [hfull.2.1] at h4 h7
              rw [hfull.2.2.1] at h3
              rw [withSer_len] at h4
              subst h1 h3 h5
              have hn2 : n2 = ln := h4.trans (unhide HLN).symm
              subst hn2
              have HR7 := hide h7
              clear h2 h4 h6 h7 hfull
              go_wp2_with fail
              have hlis := lIsT sr2 sr2 l (by rw [← unhide HLN]; omega) G bo cb w17 (unhide HR7).pgs ((unhide HOW w17 ((unhide HS17).get 3 rfl)).2)
              rw [← unhide HLN] at hlis
              refine hlis.mono ?_
              rintro e' w18 ⟨rfl, hb18⟩
              have HS18 := hide ((unhide HS17).below hb18)
              have r0' : w18.cell? ⟨N5, 0, none⟩ = some (.int .u64 (sr2 : Int)) := cellOf ((unhide HS18).get 1 rfl) 0
              clear hb18 hlis
              go_wp2
              go_roundw
              case rel => exact ⟨k + 1, F2, d2, by omega, by omega, by go_num, (unhide HS18).none, (unhide HAF).off, (unhide HAF).pend, (unhide HAF).fuse, (unhide HAF).len.trans (unhide HI).2.2.2.2.1, by rw [← unhide HTP2]; have h1 := (unhide HI).2.2.2.2.2; have h2 := unhide HTP; have h3 := unhide HSS; omega⟩
              case measure => simp [intOf]; omega
            · exact absurd hfull.1 h2
        · cases cm
          · as_aux_lemma =>
            go_wp2_with fail
            have hpl : d1.pend.length ≤ 1000000000 := by
              rcases unhide HPA with ⟨_, _, h, _⟩ | ⟨_, _, j, hj, h⟩
              · rw [h]; exact Nat.zero_le _
              · rw [h]; show (pendK f s l j).length ≤ _; rw [pendK_len]; have := unhide HLN; omega
            refine (sCrash (unhide HS11) hpl ka kb kn (unhide HKN) kc tn ct (unhide HLI).ks).mono ?_
            rintro e' w12 ⟨rfl, F2, hS12⟩
            have HAF := hide (after_crash (unhide HNC).2 (unhide HNC).1 (unhide HPA) _ (share_8 kb tn ct))
            have HS12 := hide hS12
            generalize d1.crash (D.share kb tn ct) = d2 at *
            clear hS12 HS11 q2 q3 q4 q5 q6 HPA hpl
            go_wp2_with fail
            obtain ⟨tp2, htp2⟩ : ∃ tp2, tp2 = topK (pgOf d2.lies) f c := ⟨_, rfl⟩
            have HTP2 := hide htp2
            clear htp2
            refine (sScan2 (unhide HS12) ⟨(unhide HS12).dsk.ok, (unhide HAF).off, (unhide HAF).pend, (unhide HAF).fuse⟩ f c (by omega) (by rw [(unhide HAF).len]; exact (unhide HNC).2)).mono ?_
            rintro e' w13 ⟨wh2, sr2, p2, n2, rfl, ht13, hb13⟩
            rw [← unhide HTP2]
            have HS13 := hide ((unhide HS12).below hb13)
            have HT13 := hide ht13
            obtain ⟨N5, hN5⟩ : ∃ N, N = w13.heap.size := ⟨_, rfl⟩
            have HN5 := hide hN5
            clear ht13 hb13 hN5 HS12
            go_wp2_with (first
              | (refine wpList_alloc_row (by rfl) 44 (by rfl) (some 17) (by rfl) N5 (by exact (unhide HN5).symm) _ zeroFound ?_; intro W14 HX1 HC1 HS1; simp only [Act.put, List.setIfInBounds_toArray, List.set_cons_zero, List.set_cons_succ])
              | (refine wpList_store_hid (by rfl) 44 (.tmp 17) (.tmp 118) (by rfl) N5 #[.int .u64 (tp2 : Int), .bool wh2, .int .u64 (sr2 : Int), .slice p2 n2 n2] (by rfl) (by rfl) 44 _ (unhide HX1) foundInfo rfl (found_one _ _ _ _ _ _) ?_; intro W15 HX2 HE2; simp only [Act.put])
              | fail)
            have HB15 : Hid (Below w13.heap.size w13 W15) := by
              rw [unhide HE2]
              have h1 := unhide HC1
              rw [unhide HN5] at h1 ⊢
              exact D.belowRow h1 (Nat.le_refl _) _
            have HS15 := hide ((unhide HS13).new (unhide HB15) (unhide HX2) (Nat.le_of_eq (unhide HN5).symm))
            have HT15 := hide ((unhide HT13).below (unhide HB15))
            clear HX1 HC1 HS1 HX2 HE2 HB15 HN5 HS13 HT13
            obtain ⟨GD, hGD⟩ : ∃ GD, GD = W15.heap.size := ⟨_, rfl⟩
            refine (sDurable (unhide HS15) 12 ((unhide HAF).len.trans (unhide HI).2.2.2.2.1)).mono ?_
            rintro e' w16 ⟨rfl, hS16, hb16⟩
            rw [← hGD] at hS16 ⊢
            have HS16 := hide hS16
            have HT16 := hide ((unhide HT15).below hb16)
            clear hS16 hb16 hGD HS15 HT15
            go_wp2_with fail
            refine (lOutside GW GD d.lies d2.lies 12 f ln w16 ((unhide HS16).get 2 rfl) ((unhide HS16).get 0 rfl) (unhide HI).2.2.2.2.1 ((unhide HAF).len.trans (unhide HI).2.2.2.2.1) (by decide) (by omega) (fun i _ hi => (unhide HAF).other i (by rw [← unhide HLN]; exact hi))).mono ?_
            rintro e' w17 ⟨rfl, hb17⟩
            have HS17 := hide ((unhide HS16).below hb17)
            have HT17 := hide ((unhide HT16).below hb17)
            clear hb17 HS16 HT16
            have r0 : w17.cell? ⟨N5, 0, none⟩ = some (.int .u64 (tp2 : Int)) := cellOf ((unhide HS17).get 1 rfl) 0
            have r1 : w17.cell? ⟨N5, 1, none⟩ = some (.bool wh2) := cellOf ((unhide HS17).get 1 rfl) 1
            have r2 : w17.cell? ⟨N5, 2, none⟩ = some (.int .u64 (sr2 : Int)) := cellOf ((unhide HS17).get 1 rfl) 2
            have r3 : w17.cell? ⟨N5, 3, none⟩ = some (.slice p2 n2 n2) := cellOf ((unhide HS17).get 1 rfl) 3
            have o0 : w17.cell? ⟨N3, 0, none⟩ = some (.int .u64 (tp : Int)) := cellOf ((unhide HS17).get 4 rfl) 0
            have hfull := Stp.full (unhide HPRE) ((unhide HAF).full rfl)
            obtain rfl : tp2 = s := (unhide HTP2).trans hfull.2.2.2
            rcases unhide HT17 with ⟨h1, h2, h3, h4, G, h5, h6, h7⟩ | ⟨_, h2, _⟩
            · rw [hfull.2.1] at h4 h7
              rw [hfull.2.2.1] at h3
              rw [withSer_len] at h4
              subst h1 h3 h5
              have hn2 : n2 = ln := h4.trans (unhide HLN).symm
              subst hn2
              have HR7 := hide h7
              clear h2 h4 h6 h7 hfull
              go_wp2_with fail
              have hlis := lIsT sr2 sr2 l (by rw [← unhide HLN]; omega) G bo cb w17 (unhide HR7).pgs ((unhide HOW w17 ((unhide HS17).get 3 rfl)).2)
              rw [← unhide HLN] at hlis
              refine hlis.mono ?_
              rintro e' w18 ⟨rfl, hb18⟩
              have HS18 := hide ((unhide HS17).below hb18)
              have r0' : w18.cell? ⟨N5, 0, none⟩ = some (.int .u64 (sr2 : Int)) := cellOf ((unhide HS18).get 1 rfl) 0
              clear hb18 hlis
              go_wp2
              go_roundw
              case rel => exact ⟨k + 1, F2, d2, by omega, by omega, by go_num, (unhide HS18).none, (unhide HAF).off, (unhide HAF).pend, (unhide HAF).fuse, (unhide HAF).len.trans (unhide HI).2.2.2.2.1, by rw [← unhide HTP2]; have h1 := (unhide HI).2.2.2.2.2; have h2 := unhide HTP; have h3 := unhide HSS; omega⟩
              case measure => simp [intOf]; omega
            · exact absurd hfull.1 h2
          · as_aux_lemma =>
            go_wp2_with fail
            refine (sFuse (unhide HS11) (-1) (by decide)).mono ?_
            rintro e' w12 ⟨rfl, hS12⟩
            have HAF := hide (after_calm (unhide HNC).2 (unhide HNC).1 (unhide HPA))
            have HS12 := hide hS12
            obtain ⟨F2, hF2⟩ : ∃ F2, F2 = F1 := ⟨_, rfl⟩
            rw [← hF2] at HS12
            generalize d1.fused (-1) = d2 at *
            clear hS12 HS11 q2 q3 q4 q5 q6 HPA hF2
            go_wp2_with fail
            obtain ⟨tp2, htp2⟩ : ∃ tp2, tp2 = topK (pgOf d2.lies) f c := ⟨_, rfl⟩
            have HTP2 := hide htp2
            clear htp2
            refine (sScan2 (unhide HS12) ⟨(unhide HS12).dsk.ok, (unhide HAF).off, (unhide HAF).pend, (unhide HAF).fuse⟩ f c (by omega) (by rw [(unhide HAF).len]; exact (unhide HNC).2)).mono ?_
            rintro e' w13 ⟨wh2, sr2, p2, n2, rfl, ht13, hb13⟩
            rw [← unhide HTP2]
            have HS13 := hide ((unhide HS12).below hb13)
            have HT13 := hide ht13
            obtain ⟨N5, hN5⟩ : ∃ N, N = w13.heap.size := ⟨_, rfl⟩
            have HN5 := hide hN5
            clear ht13 hb13 hN5 HS12
            go_wp2_with (first
              | (refine wpList_alloc_row (by rfl) 44 (by rfl) (some 17) (by rfl) N5 (by exact (unhide HN5).symm) _ zeroFound ?_; intro W14 HX1 HC1 HS1; simp only [Act.put, List.setIfInBounds_toArray, List.set_cons_zero, List.set_cons_succ])
              | (refine wpList_store_hid (by rfl) 44 (.tmp 17) (.tmp 118) (by rfl) N5 #[.int .u64 (tp2 : Int), .bool wh2, .int .u64 (sr2 : Int), .slice p2 n2 n2] (by rfl) (by rfl) 44 _ (unhide HX1) foundInfo rfl (found_one _ _ _ _ _ _) ?_; intro W15 HX2 HE2; simp only [Act.put])
              | fail)
            have HB15 : Hid (Below w13.heap.size w13 W15) := by
              rw [unhide HE2]
              have h1 := unhide HC1
              rw [unhide HN5] at h1 ⊢
              exact D.belowRow h1 (Nat.le_refl _) _
            have HS15 := hide ((unhide HS13).new (unhide HB15) (unhide HX2) (Nat.le_of_eq (unhide HN5).symm))
            have HT15 := hide ((unhide HT13).below (unhide HB15))
            clear HX1 HC1 HS1 HX2 HE2 HB15 HN5 HS13 HT13
            obtain ⟨GD, hGD⟩ : ∃ GD, GD = W15.heap.size := ⟨_, rfl⟩
            refine (sDurable (unhide HS15) 12 ((unhide HAF).len.trans (unhide HI).2.2.2.2.1)).mono ?_
            rintro e' w16 ⟨rfl, hS16, hb16⟩
            rw [← hGD] at hS16 ⊢
            have HS16 := hide hS16
            have HT16 := hide ((unhide HT15).below hb16)
            clear hS16 hb16 hGD HS15 HT15
            go_wp2_with fail
            refine (lOutside GW GD d.lies d2.lies 12 f ln w16 ((unhide HS16).get 2 rfl) ((unhide HS16).get 0 rfl) (unhide HI).2.2.2.2.1 ((unhide HAF).len.trans (unhide HI).2.2.2.2.1) (by decide) (by omega) (fun i _ hi => (unhide HAF).other i (by rw [← unhide HLN]; exact hi))).mono ?_
            rintro e' w17 ⟨rfl, hb17⟩
            have HS17 := hide ((unhide HS16).below hb17)
            have HT17 := hide ((unhide HT16).below hb17)
            clear hb17 HS16 HT16
            have r0 : w17.cell? ⟨N5, 0, none⟩ = some (.int .u64 (tp2 : Int)) := cellOf ((unhide HS17).get 1 rfl) 0
            have r1 : w17.cell? ⟨N5, 1, none⟩ = some (.bool wh2) := cellOf ((unhide HS17).get 1 rfl) 1
            have r2 : w17.cell? ⟨N5, 2, none⟩ = some (.int .u64 (sr2 : Int)) := cellOf ((unhide HS17).get 1 rfl) 2
            have r3 : w17.cell? ⟨N5, 3, none⟩ = some (.slice p2 n2 n2) := cellOf ((unhide HS17).get 1 rfl) 3
            have o0 : w17.cell? ⟨N3, 0, none⟩ = some (.int .u64 (tp : Int)) := cellOf ((unhide HS17).get 4 rfl) 0
            have hfull := Stp.full (unhide HPRE) ((unhide HAF).full rfl)
            obtain rfl : tp2 = s := (unhide HTP2).trans hfull.2.2.2
            rcases unhide HT17 with ⟨h1, h2, h3, h4, G, h5, h6, h7⟩ | ⟨_, h2, _⟩
            · rw [hfull.2.1] at h4 h7
              rw [hfull.2.2.1] at h3
              rw [withSer_len] at h4
              subst h1 h3 h5
              have hn2 : n2 = ln := h4.trans (unhide HLN).symm
              subst hn2
              have HR7 := hide h7
              clear h2 h4 h6 h7 hfull
              go_wp2_with fail
              have hlis := lIsT sr2 sr2 l (by rw [← unhide HLN]; omega) G bo cb w17 (unhide HR7).pgs ((unhide HOW w17 ((unhide HS17).get 3 rfl)).2)
              rw [← unhide HLN] at hlis
              refine hlis.mono ?_
              rintro e' w18 ⟨rfl, hb18⟩
              have HS18 := hide ((unhide HS17).below hb18)
              have r0' : w18.cell? ⟨N5, 0, none⟩ = some (.int .u64 (sr2 : Int)) := cellOf ((unhide HS18).get 1 rfl) 0
              clear hb18 hlis
              go_wp2
              go_roundw
              case rel => exact ⟨k + 1, F2, d2, by omega, by omega, by go_num, (unhide HS18).none, (unhide HAF).off, (unhide HAF).pend, (unhide HAF).fuse, (unhide HAF).len.trans (unhide HI).2.2.2.2.1, by rw [← unhide HTP2]; have h1 := (unhide HI).2.2.2.2.2; have h2 := unhide HTP; have h3 := unhide HSS; omega⟩
              case measure => simp [intOf]; omega
            · exact absurd hfull.1 h2
      · have hfn : ¬ fu < 0 := by omega
        cases cm
        · as_aux_lemma =>
          go_wp2_with fail
          have hpl : d1.pend.length ≤ 1000000000 := by
            rcases unhide HPA with ⟨_, _, h, _⟩ | ⟨_, _, j, hj, h⟩
            · rw [h]; exact Nat.zero_le _
            · rw [h]; show (pendK f s l j).length ≤ _; rw [pendK_len]; have := unhide HLN; omega
          refine (sCrash (unhide HS11) hpl ka kb kn (unhide HKN) kc tn ct (unhide HLI).ks).mono ?_
          rintro e' w12 ⟨rfl, F2, hS12⟩
          have HAF := hide (after_crash (unhide HNC).2 (unhide HNC).1 (unhide HPA) _ (share_8 kb tn ct))
          have HS12 := hide hS12
          generalize d1.crash (D.share kb tn ct) = d2 at *
          clear hS12 HS11 q2 q3 q4 q5 q6 HPA hpl
          go_wp2_with fail
          obtain ⟨tp2, htp2⟩ : ∃ tp2, tp2 = topK (pgOf d2.lies) f c := ⟨_, rfl⟩
          have HTP2 := hide htp2
          clear htp2
          refine (sScan2 (unhide HS12) ⟨(unhide HS12).dsk.ok, (unhide HAF).off, (unhide HAF).pend, (unhide HAF).fuse⟩ f c (by omega) (by rw [(unhide HAF).len]; exact (unhide HNC).2)).mono ?_
          rintro e' w13 ⟨wh2, sr2, p2, n2, rfl, ht13, hb13⟩
          rw [← unhide HTP2]
          have HS13 := hide ((unhide HS12).below hb13)
          have HT13 := hide ht13
          obtain ⟨N5, hN5⟩ : ∃ N, N = w13.heap.size := ⟨_, rfl⟩
          have HN5 := hide hN5
          clear ht13 hb13 hN5 HS12
          go_wp2_with (first
            | (refine wpList_alloc_row (by rfl) 44 (by rfl) (some 17) (by rfl) N5 (by exact (unhide HN5).symm) _ zeroFound ?_; intro W14 HX1 HC1 HS1; simp only [Act.put, List.setIfInBounds_toArray, List.set_cons_zero, List.set_cons_succ])
            | (refine wpList_store_hid (by rfl) 44 (.tmp 17) (.tmp 118) (by rfl) N5 #[.int .u64 (tp2 : Int), .bool wh2, .int .u64 (sr2 : Int), .slice p2 n2 n2] (by rfl) (by rfl) 44 _ (unhide HX1) foundInfo rfl (found_one _ _ _ _ _ _) ?_; intro W15 HX2 HE2; simp only [Act.put])
            | fail)
          have HB15 : Hid (Below w13.heap.size w13 W15) := by
            rw [unhide HE2]
            have h1 := unhide HC1
            rw [unhide HN5] at h1 ⊢
            exact D.belowRow h1 (Nat.le_refl _) _
          have HS15 := hide ((unhide HS13).new (unhide HB15) (unhide HX2) (Nat.le_of_eq (unhide HN5).symm))
          have HT15 := hide ((unhide HT13).below (unhide HB15))
          clear HX1 HC1 HS1 HX2 HE2 HB15 HN5 HS13 HT13
          obtain ⟨GD, hGD⟩ : ∃ GD, GD = W15.heap.size := ⟨_, rfl⟩
          refine (sDurable (unhide HS15) 12 ((unhide HAF).len.trans (unhide HI).2.2.2.2.1)).mono ?_
          rintro e' w16 ⟨rfl, hS16, hb16⟩
          rw [← hGD] at hS16 ⊢
          have HS16 := hide hS16
          have HT16 := hide ((unhide HT15).below hb16)
          clear hS16 hb16 hGD HS15 HT15
          go_wp2_with fail
          refine (lOutside GW GD d.lies d2.lies 12 f ln w16 ((unhide HS16).get 2 rfl) ((unhide HS16).get 0 rfl) (unhide HI).2.2.2.2.1 ((unhide HAF).len.trans (unhide HI).2.2.2.2.1) (by decide) (by omega) (fun i _ hi => (unhide HAF).other i (by rw [← unhide HLN]; exact hi))).mono ?_
          rintro e' w17 ⟨rfl, hb17⟩
          have HS17 := hide ((unhide HS16).below hb17)
          have HT17 := hide ((unhide HT16).below hb17)
          clear hb17 HS16 HT16
          have r0 : w17.cell? ⟨N5, 0, none⟩ = some (.int .u64 (tp2 : Int)) := cellOf ((unhide HS17).get 1 rfl) 0
          have r1 : w17.cell? ⟨N5, 1, none⟩ = some (.bool wh2) := cellOf ((unhide HS17).get 1 rfl) 1
          have r2 : w17.cell? ⟨N5, 2, none⟩ = some (.int .u64 (sr2 : Int)) := cellOf ((unhide HS17).get 1 rfl) 2
          have r3 : w17.cell? ⟨N5, 3, none⟩ = some (.slice p2 n2 n2) := cellOf ((unhide HS17).get 1 rfl) 3
          have o0 : w17.cell? ⟨N3, 0, none⟩ = some (.int .u64 (tp : Int)) := cellOf ((unhide HS17).get 4 rfl) 0
          obtain ⟨ms, hstp⟩ := (unhide HAF).stp
          have htops : tp2 = s ∨ tp2 = tp := by rw [unhide HTP2, unhide HTP]; exact Stp.tops (unhide HPRE) hstp
          have dtp : decide ((tp2 : Int) = (s : Int)) = true ∨ (decide ((tp2 : Int) = (s : Int)) = false ∧ tp2 = tp) := by
            by_cases h : tp2 = s
            · exact .inl (decide_eq_true (by omega))
            · exact .inr ⟨decide_eq_false (by omega), htops.resolve_left h⟩
          cases wh2
          · by_cases e1 : tp2 = s
            · subst e1
              go_wp2
              go_roundw
              case rel => exact ⟨k + 1, F2, d2, by omega, by omega, by go_num, (unhide HS17).none, (unhide HAF).off, (unhide HAF).pend, (unhide HAF).fuse, (unhide HAF).len.trans (unhide HI).2.2.2.2.1, by rw [← unhide HTP2]; have h1 := (unhide HI).2.2.2.2.2; have h2 := unhide HTP; have h3 := unhide HSS; omega⟩
              case measure => simp [intOf]; omega
            · obtain rfl : tp2 = tp := htops.resolve_left e1
              have e1i : ¬ (tp2 : Int) = (s : Int) := by omega
              go_wp2
              go_roundw
              case rel => exact ⟨k + 1, F2, d2, by omega, by omega, by go_num, (unhide HS17).none, (unhide HAF).off, (unhide HAF).pend, (unhide HAF).fuse, (unhide HAF).len.trans (unhide HI).2.2.2.2.1, by rw [← unhide HTP2]; have h1 := (unhide HI).2.2.2.2.2; have h2 := unhide HTP; have h3 := unhide HSS; omega⟩
              case measure => simp [intOf]; omega
          · rcases unhide HT17 with ⟨h1, h2, h3, h4, G, h5, h6, h7⟩ | ⟨h1, _⟩
            · have hwhole := Stp.whole (unhide HPRE) hstp h2
              subst h5
              rcases hwhole with ⟨a1, a2⟩ | ⟨a0, a1, a2⟩
              · rw [a1] at h4 h7
                rw [a2] at h3
                rw [withSer_len] at h4
                subst h3
                have hn2 : n2 = ln := h4.trans (unhide HLN).symm
                subst hn2
                have HR7 := hide h7
                clear h2 h4 h6 h7 h1 a1 a2
                have hlis := lIsT tp2 sr2 l (by rw [← unhide HLN]; omega) G bo cb w17 (unhide HR7).pgs ((unhide HOW w17 ((unhide HS17).get 3 rfl)).2)
                rw [← unhide HLN] at hlis
                by_cases e1 : tp2 = sr2
                · subst e1
                  go_wp2_with fail
                  refine hlis.mono ?_
                  rintro e' w18 ⟨rfl, hb18⟩
                  have HS18 := hide ((unhide HS17).below hb18)
                  clear hb18 hlis
                  go_wp2
                  go_roundw
                  case rel => exact ⟨k + 1, F2, d2, by omega, by omega, by go_num, (unhide HS18).none, (unhide HAF).off, (unhide HAF).pend, (unhide HAF).fuse, (unhide HAF).len.trans (unhide HI).2.2.2.2.1, by rw [← unhide HTP2]; have h1 := (unhide HI).2.2.2.2.2; have h2 := unhide HTP; have h3 := unhide HSS; omega⟩
                  case measure => simp [intOf]; omega
                · obtain rfl : tp2 = tp := htops.resolve_left e1
                  have e1i : ¬ (tp2 : Int) = (sr2 : Int) := by omega
                  go_wp2_with fail
                  refine hlis.mono ?_
                  rintro e' w18 ⟨rfl, hb18⟩
                  have HS18 := hide ((unhide HS17).below hb18)
                  clear hb18 hlis
                  go_wp2
                  go_roundw
                  case rel => exact ⟨k + 1, F2, d2, by omega, by omega, by go_num, (unhide HS18).none, (unhide HAF).off, (unhide HAF).pend, (unhide HAF).fuse, (unhide HAF).len.trans (unhide HI).2.2.2.2.1, by rw [← unhide HTP2]; have h1 := (unhide HI).2.2.2.2.2; have h2 := unhide HTP; have h3 := unhide HSS; omega⟩
                  case measure => simp [intOf]; omega
              · have hold := (unhide HPRE).oldSer 0 (by omega) f
                have hso : sr2 ≠ s := by rw [h3, a2]; exact hold
                have HT2 := unhide HT3
                rcases HT2 w17 ((unhide HS17).get 5 rfl) with ⟨b1, b2, b3, b4, G0, b5, b6, b7⟩ | ⟨_, b2, _⟩
                · subst b1 b5
                  obtain rfl : sr2 = sr := by rw [h3, a2, b3]
                  obtain rfl : n2 = n1 := by rw [h4, a1, b4]
                  rw [a1] at h7
                  have HR7 := hide h7
                  have HR0 := hide b7
                  have HN2 := hide b4
                  have HF2 := hide (fun w18 (hb : Below w17.heap.size w17 w18) => lSame tp2 tp sr2 _ n2 (unhide HN2) (by rw [unhide HN2]; exact Nat.le_trans (batchL_le _ _) (by rw [slotsOf_len]; unfold roomN; omega)) G G0 w18 ((unhide HR7).pgs.below hb) ((unhide HR0).pgs.below hb))
                  clear h2 h4 h6 h7 h1 a1 a2 a0 b2 b3 b4 b6 b7 HT2 h3
                  have hlis := lIsF tp2 s sr2 hso (some ⟨G, 0, none⟩) n2 n2 bo ln cb w17
                  have HHB := hide hlis
                  clear hlis
                  by_cases e1 : tp2 = s
                  · subst e1
                    go_wp2_with fail
                    refine (unhide HHB).mono ?_
                    rintro e' w18 ⟨rfl, hb18⟩
                    have HS18 := hide ((unhide HS17).below hb18)
                    have HB18 := hide hb18
                    have r0' : w18.cell? ⟨N5, 0, none⟩ = some (.int .u64 (tp2 : Int)) := cellOf ((unhide HS18).get 1 rfl) 0
                    have r1' : w18.cell? ⟨N5, 1, none⟩ = some (.bool true) := cellOf ((unhide HS18).get 1 rfl) 1
                    have r2' : w18.cell? ⟨N5, 2, none⟩ = some (.int .u64 (sr2 : Int)) := cellOf ((unhide HS18).get 1 rfl) 2
                    have r3' : w18.cell? ⟨N5, 3, none⟩ = some (.slice (some ⟨G, 0, none⟩) n2 n2) := cellOf ((unhide HS18).get 1 rfl) 3
                    have o0' : w18.cell? ⟨N3, 0, none⟩ = some (.int .u64 (tp : Int)) := cellOf ((unhide HS18).get 4 rfl) 0
                    have o1' : w18.cell? ⟨N3, 1, none⟩ = some (.bool true) := cellOf ((unhide HS18).get 4 rfl) 1
                    have o2' : w18.cell? ⟨N3, 2, none⟩ = some (.int .u64 (sr2 : Int)) := cellOf ((unhide HS18).get 4 rfl) 2
                    have o3' : w18.cell? ⟨N3, 3, none⟩ = some (.slice (some ⟨G0, 0, none⟩) n2 n2) := cellOf ((unhide HS18).get 4 rfl) 3
                    clear hb18 HHB
                    go_wp2_with fail
                    refine (unhide HF2 w18 (unhide HB18)).mono ?_
                    rintro e' w19 ⟨rfl, hb19⟩
                    have HS19 := hide ((unhide HS18).below hb19)
                    clear hb19
                    go_wp2
                    go_roundw
                    case rel => exact ⟨k + 1, F2, d2, by omega, by omega, by go_num, (unhide HS19).none, (unhide HAF).off, (unhide HAF).pend, (unhide HAF).fuse, (unhide HAF).len.trans (unhide HI).2.2.2.2.1, by rw [← unhide HTP2]; have h1 := (unhide HI).2.2.2.2.2; have h2 := unhide HTP; have h3 := unhide HSS; omega⟩
                    case measure => simp [intOf]; omega
                  · have e2 : tp2 = tp := htops.resolve_left e1
                    subst e2
                    have e1i : ¬ (tp2 : Int) = (s : Int) := by omega
                    go_wp2_with fail
                    refine (unhide HHB).mono ?_
                    rintro e' w18 ⟨rfl, hb18⟩
                    have HS18 := hide ((unhide HS17).below hb18)
                    have HB18 := hide hb18
                    have r0' : w18.cell? ⟨N5, 0, none⟩ = some (.int .u64 (tp2 : Int)) := cellOf ((unhide HS18).get 1 rfl) 0
                    have r1' : w18.cell? ⟨N5, 1, none⟩ = some (.bool true) := cellOf ((unhide HS18).get 1 rfl) 1
                    have r2' : w18.cell? ⟨N5, 2, none⟩ = some (.int .u64 (sr2 : Int)) := cellOf ((unhide HS18).get 1 rfl) 2
                    have r3' : w18.cell? ⟨N5, 3, none⟩ = some (.slice (some ⟨G, 0, none⟩) n2 n2) := cellOf ((unhide HS18).get 1 rfl) 3
                    have o0' : w18.cell? ⟨N3, 0, none⟩ = some (.int .u64 (tp2 : Int)) := cellOf ((unhide HS18).get 4 rfl) 0
                    have o1' : w18.cell? ⟨N3, 1, none⟩ = some (.bool true) := cellOf ((unhide HS18).get 4 rfl) 1
                    have o2' : w18.cell? ⟨N3, 2, none⟩ = some (.int .u64 (sr2 : Int)) := cellOf ((unhide HS18).get 4 rfl) 2
                    have o3' : w18.cell? ⟨N3, 3, none⟩ = some (.slice (some ⟨G0, 0, none⟩) n2 n2) := cellOf ((unhide HS18).get 4 rfl) 3
                    clear hb18 HHB
                    go_wp2_with fail
                    refine (unhide HF2 w18 (unhide HB18)).mono ?_
                    rintro e' w19 ⟨rfl, hb19⟩
                    have HS19 := hide ((unhide HS18).below hb19)
                    clear hb19
                    go_wp2
                    go_roundw
                    case rel => exact ⟨k + 1, F2, d2, by omega, by omega, by go_num, (unhide HS19).none, (unhide HAF).off, (unhide HAF).pend, (unhide HAF).fuse, (unhide HAF).len.trans (unhide HI).2.2.2.2.1, by rw [← unhide HTP2]; have h1 := (unhide HI).2.2.2.2.2; have h2 := unhide HTP; have h3 := unhide HSS; omega⟩
                    case measure => simp [intOf]; omega
                · exact absurd a0 b2
            · cases h1
        · as_aux_lemma =>
          go_wp2_with fail
          have hpl : d1.pend.length ≤ 1000000000 := by
            rcases unhide HPA with ⟨_, _, h, _⟩ | ⟨_, _, j, hj, h⟩
            · rw [h]; exact Nat.zero_le _
            · rw [h]; show (pendK f s l j).length ≤ _; rw [pendK_len]; have := unhide HLN; omega
          refine (sCrash (unhide HS11) hpl ka kb kn (unhide HKN) kc tn ct (unhide HLI).ks).mono ?_
          rintro e' w12 ⟨rfl, F2, hS12⟩
          have HAF := hide (after_crash (unhide HNC).2 (unhide HNC).1 (unhide HPA) _ (share_8 kb tn ct))
          have HS12 := hide hS12
          generalize d1.crash (D.share kb tn ct) = d2 at *
          clear hS12 HS11 q2 q3 q4 q5 q6 HPA hpl
          go_wp2_with fail
          obtain ⟨tp2, htp2⟩ : ∃ tp2, tp2 = topK (pgOf d2.lies) f c := ⟨_, rfl⟩
          have HTP2 := hide htp2
          clear htp2
          refine (sScan2 (unhide HS12) ⟨(unhide HS12).dsk.ok, (unhide HAF).off, (unhide HAF).pend, (unhide HAF).fuse⟩ f c (by omega) (by rw [(unhide HAF).len]; exact (unhide HNC).2)).mono ?_
          rintro e' w13 ⟨wh2, sr2, p2, n2, rfl, ht13, hb13⟩
          rw [← unhide HTP2]
          have HS13 := hide ((unhide HS12).below hb13)
          have HT13 := hide ht13
          obtain ⟨N5, hN5⟩ : ∃ N, N = w13.heap.size := ⟨_, rfl⟩
          have HN5 := hide hN5
          clear ht13 hb13 hN5 HS12
          go_wp2_with (first
            | (refine wpList_alloc_row (by rfl) 44 (by rfl) (some 17) (by rfl) N5 (by exact (unhide HN5).symm) _ zeroFound ?_; intro W14 HX1 HC1 HS1; simp only [Act.put, List.setIfInBounds_toArray, List.set_cons_zero, List.set_cons_succ])
            | (refine wpList_store_hid (by rfl) 44 (.tmp 17) (.tmp 118) (by rfl) N5 #[.int .u64 (tp2 : Int), .bool wh2, .int .u64 (sr2 : Int), .slice p2 n2 n2] (by rfl) (by rfl) 44 _ (unhide HX1) foundInfo rfl (found_one _ _ _ _ _ _) ?_; intro W15 HX2 HE2; simp only [Act.put])
            | fail)
          have HB15 : Hid (Below w13.heap.size w13 W15) := by
            rw [unhide HE2]
            have h1 := unhide HC1
            rw [unhide HN5] at h1 ⊢
            exact D.belowRow h1 (Nat.le_refl _) _
          have HS15 := hide ((unhide HS13).new (unhide HB15) (unhide HX2) (Nat.le_of_eq (unhide HN5).symm))
          have HT15 := hide ((unhide HT13).below (unhide HB15))
          clear HX1 HC1 HS1 HX2 HE2 HB15 HN5 HS13 HT13
          obtain ⟨GD, hGD⟩ : ∃ GD, GD = W15.heap.size := ⟨_, rfl⟩
          refine (sDurable (unhide HS15) 12 ((unhide HAF).len.trans (unhide HI).2.2.2.2.1)).mono ?_
          rintro e' w16 ⟨rfl, hS16, hb16⟩
          rw [← hGD] at hS16 ⊢
          have HS16 := hide hS16
          have HT16 := hide ((unhide HT15).below hb16)
          clear hS16 hb16 hGD HS15 HT15
          go_wp2_with fail
          refine (lOutside GW GD d.lies d2.lies 12 f ln w16 ((unhide HS16).get 2 rfl) ((unhide HS16).get 0 rfl) (unhide HI).2.2.2.2.1 ((unhide HAF).len.trans (unhide HI).2.2.2.2.1) (by decide) (by omega) (fun i _ hi => (unhide HAF).other i (by rw [← unhide HLN]; exact hi))).mono ?_
          rintro e' w17 ⟨rfl, hb17⟩
          have HS17 := hide ((unhide HS16).below hb17)
          have HT17 := hide ((unhide HT16).below hb17)
          clear hb17 HS16 HT16
          have r0 : w17.cell? ⟨N5, 0, none⟩ = some (.int .u64 (tp2 : Int)) := cellOf ((unhide HS17).get 1 rfl) 0
          have r1 : w17.cell? ⟨N5, 1, none⟩ = some (.bool wh2) := cellOf ((unhide HS17).get 1 rfl) 1
          have r2 : w17.cell? ⟨N5, 2, none⟩ = some (.int .u64 (sr2 : Int)) := cellOf ((unhide HS17).get 1 rfl) 2
          have r3 : w17.cell? ⟨N5, 3, none⟩ = some (.slice p2 n2 n2) := cellOf ((unhide HS17).get 1 rfl) 3
          have o0 : w17.cell? ⟨N3, 0, none⟩ = some (.int .u64 (tp : Int)) := cellOf ((unhide HS17).get 4 rfl) 0
          obtain ⟨ms, hstp⟩ := (unhide HAF).stp
          have htops : tp2 = s ∨ tp2 = tp := by rw [unhide HTP2, unhide HTP]; exact Stp.tops (unhide HPRE) hstp
          have dtp : decide ((tp2 : Int) = (s : Int)) = true ∨ (decide ((tp2 : Int) = (s : Int)) = false ∧ tp2 = tp) := by
            by_cases h : tp2 = s
            · exact .inl (decide_eq_true (by omega))
            · exact .inr ⟨decide_eq_false (by omega), htops.resolve_left h⟩
          cases wh2
          · by_cases e1 : tp2 = s
            · subst e1
              go_wp2
              go_roundw
              case rel => exact ⟨k + 1, F2, d2, by omega, by omega, by go_num, (unhide HS17).none, (unhide HAF).off, (unhide HAF).pend, (unhide HAF).fuse, (unhide HAF).len.trans (unhide HI).2.2.2.2.1, by rw [← unhide HTP2]; have h1 := (unhide HI).2.2.2.2.2; have h2 := unhide HTP; have h3 := unhide HSS; omega⟩
              case measure => simp [intOf]; omega
            · obtain rfl : tp2 = tp := htops.resolve_left e1
              have e1i : ¬ (tp2 : Int) = (s : Int) := by omega
              go_wp2
              go_roundw
              case rel => exact ⟨k + 1, F2, d2, by omega, by omega, by go_num, (unhide HS17).none, (unhide HAF).off, (unhide HAF).pend, (unhide HAF).fuse, (unhide HAF).len.trans (unhide HI).2.2.2.2.1, by rw [← unhide HTP2]; have h1 := (unhide HI).2.2.2.2.2; have h2 := unhide HTP; have h3 := unhide HSS; omega⟩
              case measure => simp [intOf]; omega
          · rcases unhide HT17 with ⟨h1, h2, h3, h4, G, h5, h6, h7⟩ | ⟨h1, _⟩
            · have hwhole := Stp.whole (unhide HPRE) hstp h2
              subst h5
              rcases hwhole with ⟨a1, a2⟩ | ⟨a0, a1, a2⟩
              · rw [a1] at h4 h7
                rw [a2] at h3
                rw [withSer_len] at h4
                subst h3
                have hn2 : n2 = ln := h4.trans (unhide HLN).symm
                subst hn2
                have HR7 := hide h7
                clear h2 h4 h6 h7 h1 a1 a2
                have hlis := lIsT tp2 sr2 l (by rw [← unhide HLN]; omega) G bo cb w17 (unhide HR7).pgs ((unhide HOW w17 ((unhide HS17).get 3 rfl)).2)
                rw [← unhide HLN] at hlis
                by_cases e1 : tp2 = sr2
                · subst e1
                  go_wp2_with fail
                  refine hlis.mono ?_
                  rintro e' w18 ⟨rfl, hb18⟩
                  have HS18 := hide ((unhide HS17).below hb18)
                  clear hb18 hlis
                  go_wp2
                  go_roundw
                  case rel => exact ⟨k + 1, F2, d2, by omega, by omega, by go_num, (unhide HS18).none, (unhide HAF).off, (unhide HAF).pend, (unhide HAF).fuse, (unhide HAF).len.trans (unhide HI).2.2.2.2.1, by rw [← unhide HTP2]; have h1 := (unhide HI).2.2.2.2.2; have h2 := unhide HTP; have h3 := unhide HSS; omega⟩
                  case measure => simp [intOf]; omega
                · obtain rfl : tp2 = tp := htops.resolve_left e1
                  have e1i : ¬ (tp2 : Int) = (sr2 : Int) := by omega
                  go_wp2_with fail
                  refine hlis.mono ?_
                  rintro e' w18 ⟨rfl, hb18⟩
                  have HS18 := hide ((unhide HS17).below hb18)
                  clear hb18 hlis
                  go_wp2
                  go_roundw
                  case rel => exact ⟨k + 1, F2, d2, by omega, by omega, by go_num, (unhide HS18).none, (unhide HAF).off, (unhide HAF).pend, (unhide HAF).fuse, (unhide HAF).len.trans (unhide HI).2.2.2.2.1, by rw [← unhide HTP2]; have h1 := (unhide HI).2.2.2.2.2; have h2 := unhide HTP; have h3 := unhide HSS; omega⟩
                  case measure => simp [intOf]; omega
              · have hold := (unhide HPRE).oldSer 0 (by omega) f
                have hso : sr2 ≠ s := by rw [h3, a2]; exact hold
                have HT2 := unhide HT3
                rcases HT2 w17 ((unhide HS17).get 5 rfl) with ⟨b1, b2, b3, b4, G0, b5, b6, b7⟩ | ⟨_, b2, _⟩
                · subst b1 b5
                  obtain rfl : sr2 = sr := by rw [h3, a2, b3]
                  obtain rfl : n2 = n1 := by rw [h4, a1, b4]
                  rw [a1] at h7
                  have HR7 := hide h7
                  have HR0 := hide b7
                  have HN2 := hide b4
                  have HF2 := hide (fun w18 (hb : Below w17.heap.size w17 w18) => lSame tp2 tp sr2 _ n2 (unhide HN2) (by rw [unhide HN2]; exact Nat.le_trans (batchL_le _ _) (by rw [slotsOf_len]; unfold roomN; omega)) G G0 w18 ((unhide HR7).pgs.below hb) ((unhide HR0).pgs.below hb))
                  clear h2 h4 h6 h7 h1 a1 a2 a0 b2 b3 b4 b6 b7 HT2 h3
                  have hlis := lIsF tp2 s sr2 hso (some ⟨G, 0, none⟩) n2 n2 bo ln cb w17
                  have HHB := hide hlis
                  clear hlis
                  by_cases e1 : tp2 = s
                  · subst e1
                    go_wp2_with fail
                    refine (unhide HHB).mono ?_
                    rintro e' w18 ⟨rfl, hb18⟩
                    have HS18 := hide ((unhide HS17).below hb18)
                    have HB18 := hide hb18
                    have r0' : w18.cell? ⟨N5, 0, none⟩ = some (.int .u64 (tp2 : Int)) := cellOf ((unhide HS18).get 1 rfl) 0
                    have r1' : w18.cell? ⟨N5, 1, none⟩ = some (.bool true) := cellOf ((unhide HS18).get 1 rfl) 1
                    have r2' : w18.cell? ⟨N5, 2, none⟩ = some (.int .u64 (sr2 : Int)) := cellOf ((unhide HS18).get 1 rfl) 2
                    have r3' : w18.cell? ⟨N5, 3, none⟩ = some (.slice (some ⟨G, 0, none⟩) n2 n2) := cellOf ((unhide HS18).get 1 rfl) 3
                    have o0' : w18.cell? ⟨N3, 0, none⟩ = some (.int .u64 (tp : Int)) := cellOf ((unhide HS18).get 4 rfl) 0
                    have o1' : w18.cell? ⟨N3, 1, none⟩ = some (.bool true) := cellOf ((unhide HS18).get 4 rfl) 1
                    have o2' : w18.cell? ⟨N3, 2, none⟩ = some (.int .u64 (sr2 : Int)) := cellOf ((unhide HS18).get 4 rfl) 2
                    have o3' : w18.cell? ⟨N3, 3, none⟩ = some (.slice (some ⟨G0, 0, none⟩) n2 n2) := cellOf ((unhide HS18).get 4 rfl) 3
                    clear hb18 HHB
                    go_wp2_with fail
                    refine (unhide HF2 w18 (unhide HB18)).mono ?_
                    rintro e' w19 ⟨rfl, hb19⟩
                    have HS19 := hide ((unhide HS18).below hb19)
                    clear hb19
                    go_wp2
                    go_roundw
                    case rel => exact ⟨k + 1, F2, d2, by omega, by omega, by go_num, (unhide HS19).none, (unhide HAF).off, (unhide HAF).pend, (unhide HAF).fuse, (unhide HAF).len.trans (unhide HI).2.2.2.2.1, by rw [← unhide HTP2]; have h1 := (unhide HI).2.2.2.2.2; have h2 := unhide HTP; have h3 := unhide HSS; omega⟩
                    case measure => simp [intOf]; omega
                  · have e2 : tp2 = tp := htops.resolve_left e1
                    subst e2
                    have e1i : ¬ (tp2 : Int) = (s : Int) := by omega
                    go_wp2_with fail
                    refine (unhide HHB).mono ?_
                    rintro e' w18 ⟨rfl, hb18⟩
                    have HS18 := hide ((unhide HS17).below hb18)
                    have HB18 := hide hb18
                    have r0' : w18.cell? ⟨N5, 0, none⟩ = some (.int .u64 (tp2 : Int)) := cellOf ((unhide HS18).get 1 rfl) 0
                    have r1' : w18.cell? ⟨N5, 1, none⟩ = some (.bool true) := cellOf ((unhide HS18).get 1 rfl) 1
                    have r2' : w18.cell? ⟨N5, 2, none⟩ = some (.int .u64 (sr2 : Int)) := cellOf ((unhide HS18).get 1 rfl) 2
                    have r3' : w18.cell? ⟨N5, 3, none⟩ = some (.slice (some ⟨G, 0, none⟩) n2 n2) := cellOf ((unhide HS18).get 1 rfl) 3
                    have o0' : w18.cell? ⟨N3, 0, none⟩ = some (.int .u64 (tp2 : Int)) := cellOf ((unhide HS18).get 4 rfl) 0
                    have o1' : w18.cell? ⟨N3, 1, none⟩ = some (.bool true) := cellOf ((unhide HS18).get 4 rfl) 1
                    have o2' : w18.cell? ⟨N3, 2, none⟩ = some (.int .u64 (sr2 : Int)) := cellOf ((unhide HS18).get 4 rfl) 2
                    have o3' : w18.cell? ⟨N3, 3, none⟩ = some (.slice (some ⟨G0, 0, none⟩) n2 n2) := cellOf ((unhide HS18).get 4 rfl) 3
                    clear hb18 HHB
                    go_wp2_with fail
                    refine (unhide HF2 w18 (unhide HB18)).mono ?_
                    rintro e' w19 ⟨rfl, hb19⟩
                    have HS19 := hide ((unhide HS18).below hb19)
                    clear hb19
                    go_wp2
                    go_roundw
                    case rel => exact ⟨k + 1, F2, d2, by omega, by omega, by go_num, (unhide HS19).none, (unhide HAF).off, (unhide HAF).pend, (unhide HAF).fuse, (unhide HAF).len.trans (unhide HI).2.2.2.2.1, by rw [← unhide HTP2]; have h1 := (unhide HI).2.2.2.2.2; have h2 := unhide HTP; have h3 := unhide HSS; omega⟩
                    case measure => simp [intOf]; omega
                · exact absurd a0 b2
            · cases h1
    · by_cases hk1 : k < n
      · have hki : (k : Int) < (n : Int) := by omega
        have hk40 : ¬ (k : Int) < 40 := by omega
        go_wp2_with fail
        refine (lAwake wr (unhide HI).1.tab).mono ?_
        rintro e' w2 ⟨rfl, hb2⟩
        have HB2 : Hid (Below w.heap.size w w2) := (unhide HI).1.bel.trans (hb2.mono (unhide HI).1.bel.size)
        clear hb2
        go_wp2
        go_ret
        exact ⟨rfl, unhide HB2⟩
      · have hki : ¬ (k : Int) < (n : Int) := by omega
        go_wp2_with fail
        refine (lAwake wr (unhide HI).1.tab).mono ?_
        rintro e' w2 ⟨rfl, hb2⟩
        have HB2 : Hid (Below w.heap.size w w2) := (unhide HI).1.bel.trans (hb2.mono (unhide HI).1.bel.size)
        clear hb2
        go_wp2
        go_ret
        exact ⟨rfl, unhide HB2⟩
end Go.Proofs.YtfdfbjijomepgaaDoor
