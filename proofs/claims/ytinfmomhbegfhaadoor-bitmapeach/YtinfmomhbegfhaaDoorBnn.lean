/- The walk of BitmapNext. -/
import Derived.Test.YtinfmomhbegfhaaDoorBnl
import Derived.Test.YtinfmomhbegfhaaDoorBeg
import Derived.Test.YtinfmomhbegfhaaDoorBk
namespace Go.Proofs.YtinfmomhbegfhaaDoor
open Go.RowKit

abbrev encN (y : Nat) : Value := .int .i64 (y : Int)
theorem own_ge {u : World} {base size n k : Nat} {e : TypeId} {v : Value} {xs : List Value} (h : u.ownsRow base e size v n xs) (hk : v.ownBlock = some k) : base ≤ k := by
  rcases h.2 with ⟨rfl, _⟩ | ⟨g, cap, cur, rfl, hg, _⟩
  · simp [Value.ownBlock] at hk
  · simp [Value.ownBlock] at hk
    omega
set_option maxRecDepth 100000 in
set_option maxHeartbeats 4000000 in
theorem next_walk (x : Int) (xs : List Int) (f : Int) (ao : Option Addr) (c1 : Nat) (w : World) (hl : xs.length ≤ 9223372036854775807) (hx : LiesI w ao xs) (hT : Tab w) (hf : f ≤ 9223372036854775807) :
    Calls Tryd.prog 6 #[.int .i64 x, .slice ao xs.length c1, .int .i64 f] w fun e w' => e = .returned (.bool true) ∧ Below w.heap.size w w' := by
  obtain ⟨i0, hi, hz0, hz1, hz2⟩ := info_parts infoI
  obtain ⟨n, hn⟩ : ∃ n, n = (x % 2001).toNat := ⟨_, rfl⟩
  have hn2 : n < 2001 := by omega
  have HO1 := hide (fun u => lOf x xs ao c1 u hl)
  rw [← hn] at HO1
  have HX := hide hx
  have HT := hide hT
  have h0 : 0 < w.heap.size := World.block_lt_of_cell? _ _ (hT 0 (by decide))
  have HME : Hid (n ≠ 0 → ∀ y ∈ xs, (setOf n xs).testBit (y % (n : Int)).toNat = true) := fun hn0 y hy => setOf_mem hn0 hy
  obtain ⟨lx, hlx⟩ : ∃ lx, lx = xs.length := ⟨_, rfl⟩
  have HLX := hide hlx
  rw [← hlx] at HO1
  rw [← hlx]
  have hli : (lx : Int) ≤ 9223372036854775807 := by omega
  clear hx hn hl hT hlx
  generalize setOf n xs = A at *
  have HK : Hid (Ss w w []) := Ss.nil w
  go_enter Tryd.func6, Tryd.ntmps6
  go_wp2_with fail
  refine (unhide HO1 _ ((unhide HX).keep (unhide HK).bel (Nat.le_refl _))).mono ?_
  rintro e w1 ⟨p, q, rfl, hp, hq, hm, hb⟩
  have HK' : Hid (Ss w w1 [⟨p, q, n, A⟩]) := (unhide HK).push hb hp hq hm
  clear HK hp hq hm hb HO1
  have HK := hide (unhide HK')
  clear HK'
  obtain ⟨N1, hN1⟩ : ∃ N1, N1 = w1.heap.size := ⟨_, rfl⟩
  have HPQ : Hid (∀ c ∈ [(⟨p, q, n, A⟩ : At)], c.p < N1 ∧ c.q < N1) := fun c hc => by
    obtain rfl : c = ⟨p, q, n, A⟩ := by simpa using hc
    have h := (unhide HK).at 0 rfl
    rw [hN1]
    exact ⟨h.plt, h.qlt⟩
  have HN1 : Hid (w.heap.size ≤ N1) := by rw [hN1]; exact (unhide HK).bel.size
  have HNX := hide (bNext (show Bm _ p q n A from (unhide HK).at 0 rfl) ((unhide HT).below (unhide HK).bel h0) 0 0 (by decide) (by decide))
  go_wp2_with fail
  refine (unhide HNX).mono ?_
  rintro e w2 ⟨⟨v, rfl, hv⟩, c, rfl⟩
  obtain ⟨i, ok, rfl, hv2⟩ := hv.nx
  have HV := hide hv2
  clear hv hv2 HNX
  have HLE : Hid ((Bit.els A n 0).length ≤ n) := Bit.els_length_le A n
  go_wp2
  go_loopw [8, 9, 10] (fun v i ok wr => ∃ (pre : List Nat) (X : Nat) (iz : Int) (bk : Bool), i = .int .i64 iz ∧ ok = .bool bk ∧ Hid (wr.ownsRow N1 3 1 v pre.length (pre.map encN) ∧ Bit.els A n 0 = pre ++ Bit.els A n X ∧ Nx A n X iz bk ∧ Ss w wr [⟨p, q, n, A⟩] ∧ N1 ≤ wr.heap.size)) (fun _ i ok _ => match ok with | .bool true => n - (intOf i).toNat | _ => 0)
  case atStart => exact ⟨[], 0, i, ok, rfl, rfl, hide ⟨World.ownsRow_nil _ _ _ _, rfl, unhide HV, (unhide HK).drewN _, by rw [hN1]; exact Nat.le_refl _⟩⟩
  case round =>
    clear HV HK
    obtain ⟨pre, X, iz, bk, rfl, rfl, HI⟩ := hrel
    cases bk with
    | true =>
      obtain ⟨y, hy1, hy2, hy3, rfl⟩ : ∃ y : Nat, Bit.els A n X = y :: Bit.els A n (y + 1) ∧ y < n ∧ X ≤ y ∧ iz = (y : Int) := by
        rcases (unhide HI).2.2.1 with ⟨y, h1, h2, h3, h4, _⟩ | ⟨_, _, h⟩
        · exact ⟨y, h1, h2, h3, h4⟩
        · cases h
      have hbit : A.testBit y = true := by
        have : y ∈ Bit.els A n X := by rw [hy1]; simp
        exact (Bit.els_mem.1 this).2.2
      have HES : Hid (Bit.els A n 0 = (pre ++ [y]) ++ Bit.els A n (y + 1)) := by show _ = _; rw [(unhide HI).2.1, hy1]; simp
      have hpl : pre.length + 1 ≤ n := by
        have h1 := unhide HLE
        rw [unhide HES] at h1
        simp at h1
        omega
      have hown := (unhide HI).1
      have HSS := hide (unhide HI).2.2.2.1
      have HSZ := hide (unhide HI).2.2.2.2
      have HY2 := hide hy2
      have HBT := hide hbit
      clear HI hy1 hy3 hbit
      go_wp2_with (at_builtin; refine wpList_put _ rfl (.tmp 34) (.tmp 36) 36 rfl N1 3 i0 (.int .i64 0) 1 8 Tryd.underlying36 hi hz0 hz1 hz2 rfl (by decide) _ _ _ rfl (hown.alloc _) ⟨wr.heap.size, 0, none⟩ 1 1 [.int .i64 (y : Int)] rfl rfl (cell_one_new _ _ _) (by simp [Value.oneCell']) (by simp only [maxLen]; omega) (by omega) (by have := unhide HSZ; simp; omega) ?_; intro v' w5 hown' hgrow hnew; obtain ⟨g', cap', rfl⟩ := ownsRow_succ hown'; clear hnew)
      have hb5 : Below N1 wr w5 := ((Below.refl N1 wr).alloc (unhide HSZ) _).grown hgrow (by have := unhide HSZ; simp; omega) (fun k e => own_ge hown e)
      have HS5 : Hid (Ss w w5 [⟨p, q, n, A⟩]) := (unhide HSS).belowB (unhide HN1) (unhide HPQ) hb5
      have HZ5 : Hid (N1 ≤ w5.heap.size) := Nat.le_trans (unhide HSZ) hb5.size
      have HOW : Hid (w5.ownsRow N1 3 1 (.slice (some ⟨g', 0, none⟩) (pre.length + 1) cap') (pre ++ [y]).length ((pre ++ [y]).map encN)) := by rw [List.length_append, List.map_append]; exact hown'
      have HHs := hide (bHas (show Bm _ p q n A from (unhide HS5).at 0 rfl) y (unhide HY2))
      rw [unhide HBT] at HHs
      have hcmp : ¬ (n : Int) < (pre.length : Int) + 1 := by omega
      have hy2' := unhide HY2
      have hwy : IntKind.i64.wrap ((y : Int) + 1) = (y : Int) + 1 := wrap_small _ (by omega) (by omega)
      have HNX := hide (bNext (show Bm _ p q n A from (unhide HS5).at 0 rfl) ((unhide HT).below (unhide HS5).bel h0) ((y : Int) + 1) (y + 1) (by omega) (by omega))
      clear hown hown' hgrow hb5 HSS HSZ
      refine (unhide HHs).mono ?_
      rintro e w6 ⟨rfl, hw⟩
      obtain rfl := hw.symm
      clear hw HHs
      go_wp2_with fail
      refine (bLen (show Bm _ p q n A from (unhide HS5).at 0 rfl)).mono ?_
      rintro e w7 ⟨rfl, hw⟩
      obtain rfl := hw.symm
      clear hw
      go_wp2_with fail
      refine (unhide HNX).mono ?_
      rintro e w8 ⟨⟨v, rfl, hv⟩, c, rfl⟩
      obtain ⟨i2, ok2, rfl, hv2⟩ := hv.nx
      have HV := hide hv2
      clear hv hv2 HNX hcmp hwy
      go_wp2
      go_roundw
      case rel => exact ⟨pre ++ [y], y + 1, i2, ok2, rfl, rfl, hide ⟨unhide HOW, unhide HES, unhide HV, (unhide HS5).drewN _, unhide HZ5⟩⟩
      case measure =>
        rcases unhide HV with ⟨y2, _, h2, h3, rfl, rfl⟩ | ⟨_, rfl, rfl⟩
        · simp [intOf]; omega
        · simp [intOf]; omega
    | false =>
      have HE : Hid (Bit.els A n 0 = pre) := by
        have h1 := (unhide HI).2.1
        rcases (unhide HI).2.2.1 with ⟨_, _, _, _, _, h⟩ | ⟨h, _⟩
        · cases h
        · rw [h, List.append_nil] at h1; exact h1
      have HOW := hide (unhide HI).1
      have HSS := hide (unhide HI).2.2.2.1
      have HSZ := hide (unhide HI).2.2.2.2
      clear HI
      rename World => w9
      obtain ⟨bo, cb, rfl, hli2⟩ := lies_of_own (unhide HOW)
      have HLY := hide hli2
      clear hli2
      obtain ⟨E, hE⟩ : ∃ E, E = pre.map (fun y => ((y : Nat) : Int)) := ⟨_, rfl⟩
      rw [← hE] at HLY
      rw [← hE]
      obtain ⟨le, hle⟩ : ∃ le, le = E.length := ⟨_, rfl⟩
      have hlen : le = pre.length := by rw [hle, hE, List.length_map]
      have hle2 : le ≤ 65536 := by
        have := unhide HLE
        rw [unhide HE] at this
        omega
      rw [← hle]
      have HIs := hide (fun u v (h : LiesI u bo E) => lIs E bo cb v u (by omega) h)
      rw [← hle] at HIs
      have HEE := hide hE
      have HLL := hide hle
      have HLN := hide hlen
      clear hE hle hlen
      go_wp2
      go_loopw [11] (fun i u => ∃ k : Nat, k ≤ lx ∧ i = .int .i64 k ∧ Hid (∃ c, u = w9.drewN c)) (fun i _ => lx - (intOf i).toNat)
      case atStart => exact ⟨0, Nat.zero_le _, rfl, hide ⟨0, rfl⟩⟩
      case round =>
        obtain ⟨k, hk, rfl, HC⟩ := hrel
        have HSw : Hid (∀ c, Ss w (wr.drewN c) [⟨p, q, n, A⟩]) := fun c => by
          obtain ⟨d, e⟩ := unhide HC
          rw [e]; exact ((unhide HSS).drewN d).drewN c
        have HLw : Hid (∀ c, LiesI (wr.drewN c) bo E) := fun c => by
          obtain ⟨d, e⟩ := unhide HC
          rw [e]; exact lies_drewN (lies_drewN (unhide HLY) d) c
        by_cases hlt : k < lx
        · have hki : (k : Int) < (lx : Int) := by omega
          have hkx : k < xs.length := by rw [← unhide HLX]; exact hlt
          obtain ⟨g, o, rfl, hc⟩ := lies_at ((unhide HX).keep (unhide HSw 0).bel (Nat.le_refl _)) k hkx
          have hc' : wr.cell? ⟨g, o + k, none⟩ = some (.int .i64 xs[k]) := hc
          clear hc
          have HLn := hide (fun c => bLen (show Bm _ p q n A from (unhide HSw c).at 0 rfl))
          by_cases hn0 : n = 0
          · subst hn0
            clear hc'
            go_wp2
            go_quiet ((go_at_call 11; exact Calls.quiet_of_same (unhide HLn _)))
            go_wp2
            go_roundw
            case rel => exact ⟨k + 1, by omega, by go_num, hide (more (unhide HC) _)⟩
            case measure => simp [intOf]; omega
          · obtain ⟨z, hz⟩ : ∃ z : Nat, xs[k] % (n : Int) = (z : Int) := ⟨(xs[k] % (n : Int)).toNat, (Int.toNat_of_nonneg (Int.emod_nonneg xs[k] (by omega))).symm⟩
            have hzn : z < n := by have := Int.emod_lt_of_pos xs[k] (b := (n : Int)) (by omega); omega
            have hmem : (z : Int) ∈ E := by
              have hbit := unhide HME hn0 xs[k] (List.getElem_mem hkx)
              rw [hz, Int.toNat_natCast] at hbit
              rw [unhide HEE, ← unhide HE]
              exact List.mem_map.2 ⟨z, Bit.els_mem.2 ⟨Nat.zero_le _, hzn, hbit⟩, rfl⟩
            have HBl := hide (fun u => lBelow xs[k] n (by omega) (by omega) u)
            rw [hz] at HBl
            have HI2 := hide (fun c => unhide HIs (wr.drewN c) (z : Int) (unhide HLw c))
            rw [decide_eq_true hmem] at HI2
            have hpos : decide (0 < n) = true := decide_eq_true (by omega)
            clear hz hmem hzn
            generalize xs[k] = y at *
            go_wp2
            go_quiet (first | (go_at_call 11; exact Calls.quiet_of_same (unhide HLn _)) | (go_at_call 31; exact Calls.quiet_of_same (unhide HBl _)) | (go_at_call 30; exact Calls.quiet_of_same (unhide HI2 _)))
            go_wp2
            go_roundw
            case rel => exact ⟨k + 1, by omega, by go_num, hide (more (unhide HC) _)⟩
            case measure => simp [intOf]; omega
        · have hkk : k = lx := by omega
          subst hkk
          clear HIs
          have HT3 : Hid ((k : Int) = 0 ∨ (¬ (k : Int) = 0 ∧ (n : Int) = 0) ∨ (¬ (k : Int) = 0 ∧ ¬ (n : Int) = 0 ∧ (0 : Int) < (le : Int))) := by
            by_cases h1 : k = 0
            · exact .inl (by omega)
            · by_cases h2 : n = 0
              · exact .inr (.inl ⟨by omega, by omega⟩)
              · refine .inr (.inr ⟨by omega, by omega, ?_⟩)
                have hk0 : 0 < xs.length := by rw [← unhide HLX]; omega
                have hbit := unhide HME h2 xs[0] (List.getElem_mem hk0)
                have hnn := Int.emod_nonneg xs[0] (b := (n : Int)) (by omega)
                have hlt2 := Int.emod_lt_of_pos xs[0] (b := (n : Int)) (by omega)
                have hm : (xs[0] % (n : Int)).toNat ∈ Bit.els A n 0 := Bit.els_mem.2 ⟨Nat.zero_le _, by omega, hbit⟩
                rw [unhide HE] at hm
                have := List.length_pos_of_mem hm
                have := unhide HLN
                omega
          have HS0 := hide (unhide HSw 0)
          have HL0 := hide (unhide HLw 0)
          have HS0' : Hid (Ss w wr [⟨p, q, n, A⟩]) := unhide HS0
          have HL0' : Hid (LiesI wr bo E) := unhide HL0
          have HZ0 : Hid (N1 ≤ wr.heap.size) := by
            obtain ⟨d, e⟩ := unhide HC
            rw [e]; exact unhide HSZ
          clear HS0 HL0 HSw HLw HC HSS HLY HOW HSZ
          rename World => w11
          go_wp2
          go_loopw [12, 13] (fun m i u => ∃ (j : Nat) (mz : Int), j ≤ le ∧ i = .int .i64 ((j : Int) - 1) ∧ m = .int .i64 mz ∧ u = w11 ∧ Hid (mz = leastOf f (pre.drop j))) (fun _ i _ => (intOf i + 1).toNat)
          case atStart => exact ⟨le, -1, Nat.le_refl _, by go_num, rfl, rfl, hide (by show _ = _; rw [unhide HLN, List.drop_length]; rfl)⟩
          case round =>
            obtain ⟨j, mz, hj, rfl, rfl, hu, HMZ⟩ := hrel
            obtain rfl := hu.symm
            clear hu
            rcases j with _ | j
            · have HMZ' : Hid (mz = leastOf f (Bit.els A n 0)) := by show _ = _; rw [unhide HMZ, unhide HE]; rfl
              clear HMZ
              obtain ⟨X, hX⟩ : ∃ X : Nat, max f 0 = (X : Int) := ⟨(max f 0).toNat, by omega⟩
              have HNX := hide (bNext (show Bm _ p q n A from (unhide HS0').at 0 rfl) ((unhide HT).below (unhide HS0').bel h0) f X hX (by omega))
              have HLN2 := hide (fun i ok (h : Nx A n X i ok) => least_next hX h)
              clear hX
              go_wp2_with fail
              refine (unhide HNX).mono ?_
              rintro e w12 ⟨⟨v, rfl, hv⟩, c, rfl⟩
              obtain ⟨i2, ok2, rfl, hv2⟩ := hv.nx
              have hcase := unhide HLN2 _ _ hv2
              rw [← unhide HMZ'] at hcase
              clear hv hv2 HNX HLN2 HMZ'
              have HS12 : Hid (Ss w (w11.drewN c) [⟨p, q, n, A⟩]) := (unhide HS0').drewN c
              have HL12 : Hid (LiesI (w11.drewN c) bo E) := lies_drewN (unhide HL0') c
              clear HS0' HL0'
              rcases hcase with ⟨rfl, rfl, hi0⟩ | ⟨rfl, rfl, rfl⟩
              all_goals
                go_wp2_with fail
                refine (lGone (show Bm _ p q n A from (unhide HS12).at 0 rfl) ((unhide HT).below (unhide HS12).bel h0)).mono ?_
                rintro e w13 ⟨v2, rfl, hown2, hb2⟩
                rw [unhide HE] at hown2
                obtain ⟨b2, cb2, rfl, hl2⟩ := lies_of_own hown2
                rw [← unhide HEE] at hl2
                have HS13 := hide ((unhide HS12).below hb2)
                have HSM := hide (lSameI E E bo b2 cb cb2 w13 (by rw [← unhide HLL]; omega) ((unhide HL12).keep hb2 (Nat.le_refl _)) hl2)
                rw [decide_eq_true rfl] at HSM
                rw [← unhide HLL] at HSM
                have hel : (pre.map fun y => ((y : Nat) : Int)).length = le := by rw [List.length_map, unhide HLN]
                rw [hel]
                clear hown2 hl2 hb2 HS12 HL12 hel
                go_wp2_with fail
                refine (unhide HSM).mono ?_
                rintro e w14 ⟨rfl, d, rfl⟩
                have HS14 := hide ((unhide HS13).drewN d)
                have HCo := hide (bCount (show Bm _ p q n A from (unhide HS14).at 0 rfl))
                rw [Bit.count_els, unhide HE, ← unhide HLN] at HCo
                clear HSM HS13
                go_wp2_with fail
                refine (unhide HCo).mono ?_
                rintro e w15 ⟨rfl, hw⟩
                obtain rfl := hw.symm
                clear hw HCo
                have HLn := hide (bLen (show Bm _ p q n A from (unhide HS14).at 0 rfl))
                rcases unhide HT3 with h3 | ⟨h3, h4⟩ | ⟨h3, h4, h5⟩
                · go_wp2
                  go_ret
                  exact ⟨rfl, (unhide HS14).bel⟩
                · go_wp2_with (go_at_call 11; refine (unhide HLn).mono ?_; rintro e w16 ⟨rfl, hw⟩; obtain rfl := hw.symm; clear hw)
                  go_ret
                  exact ⟨rfl, (unhide HS14).bel⟩
                · have h6 : decide (0 < le) = true := decide_eq_true (by omega)
                  go_wp2_with (go_at_call 11; refine (unhide HLn).mono ?_; rintro e w16 ⟨rfl, hw⟩; obtain rfl := hw.symm; clear hw)
                  go_ret
                  exact ⟨by first | rfl | simp, (unhide HS14).bel⟩
            · have hjl : j < pre.length := by have := unhide HLN; omega
              have hjE : j < E.length := by rw [← unhide HLL]; omega
              have hEj : E[j] = (pre[j] : Int) := by simp [unhide HEE]
              obtain ⟨g2, o2, rfl, hc2⟩ := lies_at (unhide HL0') j hjE
              rw [hEj] at hc2
              have hji : (j : Int) < (le : Int) := by omega
              have e1 : ((j + 1 : Nat) : Int) - 1 = (j : Int) := by omega
              rw [e1]
              have HD := hide (leastOf_drop f pre j hjl)
              generalize pre[j] = y at *
              clear hEj
              by_cases hfy : f ≤ (y : Int)
              · rw [if_pos hfy] at HD
                go_wp2
                go_roundw
                case rel => exact ⟨j, (y : Int), by omega, by go_num, rfl, trivial, hide (unhide HD).symm⟩
                case measure => simp [intOf]
              · rw [if_neg hfy] at HD
                go_wp2
                go_roundw
                case rel => exact ⟨j, mz, by omega, by go_num, rfl, trivial, hide ((unhide HMZ).trans (unhide HD).symm)⟩
                case measure => simp [intOf]
end Go.Proofs.YtinfmomhbegfhaaDoor
