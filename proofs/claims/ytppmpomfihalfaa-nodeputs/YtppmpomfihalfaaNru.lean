/- Nodes: lent, the walk. -/
import Derived.Test.YtppmpomfihalfaaNrt
namespace Go.Proofs.Ytppmpomfihalfaa
open Go.RowKit

theorem szElC (W : World) : (Go.sizeOf (Try.prog.elem 22)).run Try.prog W = .ok 2 W := by
  have h : (Try.prog.info? (Try.prog.elem 22)).map (·.size) = some 2 := by kernel_rfl
  exact sizeN h W
theorem cutC (g o m c i : Nat) (hi : i ≤ c) (h0 : 0 < c) (W : World) : (Instr.slice 22 (.slice (some ⟨g, o, none⟩) m c) none (some (.int .i64 (i : Int))) none).run Try.prog W = .ok (.slice (some ⟨g, o, none⟩) i c) W := by
  rw [run_slice_h W 22 _ _ _ (show Try.prog.underlying 22 = some (.slice (Try.prog.elem 22)) by kernel_rfl) .i64 i (by omega) (by omega), szElC]
  simp only [Result.andThen_ok, sliced, Int.toNat_natCast, Nat.sub_zero]
  rw [if_neg (by omega), Option.map_some, Addr.add_mid]
  simp
theorem szElK (W : World) : (Go.sizeOf (Try.prog.elem 23)).run Try.prog W = .ok 1 W := by
  have h : (Try.prog.info? (Try.prog.elem 23)).map (·.size) = some 1 := by kernel_rfl
  exact sizeN h W
theorem cutK (g o m c i : Nat) (hi : i ≤ c) (h0 : 0 < c) (W : World) : (Instr.slice 23 (.slice (some ⟨g, o, none⟩) m c) none (some (.int .i64 (i : Int))) none).run Try.prog W = .ok (.slice (some ⟨g, o, none⟩) i c) W := by
  rw [run_slice_h W 23 _ _ _ (show Try.prog.underlying 23 = some (.slice (Try.prog.elem 23)) by kernel_rfl) .i64 i (by omega) (by omega), szElK]
  simp only [Result.andThen_ok, sliced, Int.toNat_natCast, Nat.sub_zero]
  rw [if_neg (by omega), Option.map_some, Addr.add_mid]
  simp
theorem szElG (W : World) : (Go.sizeOf (Try.prog.elem 24)).run Try.prog W = .ok 1 W := by
  have h : (Try.prog.info? (Try.prog.elem 24)).map (·.size) = some 1 := by kernel_rfl
  exact sizeN h W
theorem cutG (g o m c i : Nat) (hi : i ≤ c) (h0 : 0 < c) (W : World) : (Instr.slice 24 (.slice (some ⟨g, o, none⟩) m c) none (some (.int .i64 (i : Int))) none).run Try.prog W = .ok (.slice (some ⟨g, o, none⟩) i c) W := by
  rw [run_slice_h W 24 _ _ _ (show Try.prog.underlying 24 = some (.slice (Try.prog.elem 24)) by kernel_rfl) .i64 i (by omega) (by omega), szElG]
  simp only [Result.andThen_ok, sliced, Int.toNat_natCast, Nat.sub_zero]
  rw [if_neg (by omega), Option.map_some, Addr.add_mid]
  simp
theorem one_newS (W : World) (p : Addr) (v a : Value) (t : TypeId) : ∀ j u, [a][j]? = some u → ((W.setCell p v).alloc (.cells #[a] t)).cell? ((⟨W.heap.size, 0, none⟩ : Addr).add j) = some u := by
  have h := one_new (W.setCell p v) a t
  have hs : (W.setCell p v).heap.size = W.heap.size := by simp
  rw [hs] at h
  exact h
set_option maxRecDepth 10000 in
theorem enc_le (r : Int) : (Utf8.encode r).size ≤ 4 := by
  unfold Utf8.encode
  generalize (if Utf8.valid r then r.toNat else Utf8.runeError) = c
  dsimp only
  split
  · show 1 ≤ 4; omega
  · split
    · show 2 ≤ 4; omega
    · split
      · show 3 ≤ 4; omega
      · show 4 ≤ 4; omega
/-- few enough -/
def Nd.Few (n : Nd) : Prop := n.cells.length ≤ 4398046510976 ∧ n.keys.length ≤ 8796093021952 ∧ n.kids.length ≤ 35184372087808
/-- a node that was lent: its lists are its own, with the marks behind them -/
structure Le (w : World) (B : Nat) (n : Nd) (b : Nv) : Prop where
  at_ : NdAt w n b
  own : Ow w B (wC n.cells 40) (wK n.keys 40) (wG n.kids 40) b
theorem own_pos {w : World} {B e size : Nat} {ao : Option Addr} {n cp : Nat} {xs : List Value} (h : w.ownsRow B e size (.slice ao n cp) n xs) (h0 : 0 < n) : n ≤ cp ∧ ∃ g, ao = some ⟨g, 0, none⟩ := by
  rcases h.2 with ⟨_, hn⟩ | ⟨g, cap, cur, hv, h1, h2, h3, h4, h5, h6⟩
  · omega
  · cases hv; exact ⟨h3, g, rfl⟩
theorem Lies.pre {w : World} {ao : Option Addr} {xs ys : List Value} (h : Lies w ao (xs ++ ys)) : Lies w ao xs := fun h0 => by
  obtain ⟨g, o, e, hr⟩ := h (by rw [List.length_append]; omega)
  exact ⟨g, o, e, fun j v hv => hr j v (by rw [List.getElem?_append_left (List.getElem?_eq_some_iff.1 hv).1]; exact hv)⟩
theorem flatC_app (a b : List Cl) : flatC (a ++ b) = flatC a ++ flatC b := by simp [flatC]
theorem flatK_app (a b : List ByteArray) : flatK (a ++ b) = flatK a ++ flatK b := by simp [flatK]
theorem flatG_app (a b : List Nat) : flatG (a ++ b) = flatG a ++ flatG b := by simp [flatG]
theorem Le.mk' {w u : World} {B : Nat} {n : Nd} {a b : Nv} (ha : NdAt u n a) (ho : Ow w B (wC n.cells 40) (wK n.keys 40) (wG n.kids 40) b) : Le w B n b := by
  have h1 := own_liesS ho.c
  have h2 := own_liesS ho.k
  have h3 := own_liesS ho.g
  have l1 := h1.1
  have l2 := h2.1
  have l3 := h3.1
  have c1 := h1.2.1
  have c2 := h2.2.1
  have c3 := h3.2.1
  rw [wC_len] at c1
  rw [wK_len] at c2
  rw [wG_len] at c3
  unfold wC at l1
  unfold wK at l2
  unfold wG at l3
  rw [flatC_app] at l1
  rw [flatK_app] at l2
  rw [flatG_app] at l3
  exact ⟨⟨l1.pre, l2.pre, l3.pre, ha.kid, ha.len, ha.str, ⟨by omega, by omega, by omega⟩⟩, ho⟩
set_option maxRecDepth 100000 in
set_option maxHeartbeats 8000000 in
theorem lLent (n : Nd) (a : Nv) (u : World) (h : NdAt u n a) (hn : a.Nil) (hb : n.Few) : Calls Try.prog 15 #[a.v n] u fun e u' => ∃ b : Nv, e = .returned (b.v n) ∧ Le u' u.heap.size n b ∧ Below u.heap.size u u' := by
  have hb1 : n.cells.length ≤ 4398046510976 := hb.1
  have hb2 : n.keys.length ≤ 8796093021952 := hb.2.1
  have hb3 : n.kids.length ≤ 35184372087808 := hb.2.2
  have H2 := hide (fun (v : World) (hv : Below u.heap.size u v) => lTwinO n a v (h.below hv) hn (by omega))
  have HA := hide h
  obtain ⟨i0, hi0⟩ := cell_parts
  obtain ⟨i1, hi1⟩ := str_parts
  obtain ⟨i2, hi2⟩ := kid_parts
  have HI0 := hide hi0
  have HI1 := hide hi1
  have HI2 := hide hi2
  clear h hn hb hi0 hi1 hi2
  obtain ⟨N, hN⟩ : ∃ N, N = u.heap.size := ⟨_, rfl⟩
  have HN := hide hN
  rw [← hN] at H2 ⊢
  clear hN
  obtain ⟨ca, cc, ka, kc, ga, gc⟩ := a
  have HV : Hid (∀ b : Nv, b.v n = .agg #[.bool n.leaf, .slice b.ca n.cells.length b.cc, .slice b.ka n.keys.length b.kc, .slice b.ga n.kids.length b.gc]) := fun b => Nv.v_eq n b
  rw [unhide HV] at H2 ⊢
  obtain ⟨cn, hcn⟩ : ∃ cn, cn = n.cells.length := ⟨_, rfl⟩
  obtain ⟨kn, hkn⟩ : ∃ kn, kn = n.keys.length := ⟨_, rfl⟩
  obtain ⟨gn, hgn⟩ : ∃ gn, gn = n.kids.length := ⟨_, rfl⟩
  obtain ⟨lf, hlf⟩ : ∃ lf, lf = n.leaf := ⟨_, rfl⟩
  have HCN := hide hcn
  have HKN := hide hkn
  have HGN := hide hgn
  have HLF := hide hlf
  rw [← hcn, ← hkn, ← hgn, ← hlf] at H2 HV ⊢
  rw [← hcn] at hb1
  rw [← hkn] at hb2
  rw [← hgn] at hb3
  clear hcn hkn hgn hlf
  go_enter Try.func15, Try.ntmps15
  go_wp2_with (first
    | ((with_reducible refine wpList_box_node (by rfl) (.tmp 0) (by rfl) (some 1) (by rfl) N (unhide HN) lf ca cn cc ka kn kc ga gn gc (by with_unfolding_all rfl) ?_); intro W0 HX0 HB0 HS0; simp only [Act.put, List.setIfInBounds_toArray, List.set_cons_zero, List.set_cons_succ])
    | ((with_reducible refine wpList_alloc_node (by rfl) (by rfl) (some 2) (by rfl) (N + 1) (unhide HS0).symm ?_); intro W1 HX1 HB1 HS1; simp only [Act.put, List.setIfInBounds_toArray, List.set_cons_zero, List.set_cons_succ]; have HX1b := hide (((unhide HB1).block N (Nat.lt_succ_self _)).trans (unhide HX0)); obtain ⟨y0, y1, y2, y3⟩ := box4 (unhide HX1b))
    | fail)
  have HBL1 : Hid (Below N u W1) := (unhide HB0).trans ((unhide HB1).mono (Nat.le_succ _))
  refine (unhide H2 W1 (unhide HBL1)).mono ?_
  rintro e W2 ⟨b, rfl, hnd, how, hb2'⟩
  have HOW := hide how
  have HBB := hide hb2'
  have HX2 := hide (box_below (unhide HX1b) hb2')
  have HR2 := hide (box_below (unhide HX1) hb2')
  rw [unhide HV b]
  clear hnd how hb2' y0 y1 y2 y3
  obtain ⟨M, hM⟩ : ∃ M, M = W2.heap.size := ⟨_, rfl⟩
  have HM := hide hM
  have HMN : Hid (N + 2 ≤ M) := by have := (Array.getElem?_eq_some_iff.1 (unhide HR2)).1; rw [show M = W2.heap.size from hM]; exact this
  clear hM
  go_wp2_with (first
    | ((with_reducible refine wpList_alloc_node (by rfl) (by rfl) (some 3) (by rfl) M (unhide HM) ?_); intro W3 HX3 HB3 HS3; simp only [Act.put, List.setIfInBounds_toArray, List.set_cons_zero, List.set_cons_succ])
    | ((with_reducible refine wpList_store_node (by rfl) (.tmp 3) (.tmp 6) (by rfl) M lf b.ca cn b.cc b.ka kn b.kc b.ga gn b.gc (by with_unfolding_all rfl) (by with_unfolding_all rfl) (unhide HX3) ?_); intro W4 HX4 HE4; simp only [Act.put])
    | fail)
  have HL0 : Hid (Ln u W4 N M (.cells #[.bool lf, .slice ca cn cc, .slice ka kn kc, .slice ga gn gc] 26 (0, 0)) n 0 0 0 b) := by
    have hMN := unhide HMN
    have hb34 : Below M W2 W4 := by rw [unhide HE4]; exact belowRow (unhide HB3) (Nat.le_refl _) _
    have hb24 : Below W2.heap.size W2 W4 := by rw [← unhide HM]; exact hb34
    have how := unhide HOW
    have hs1 := unhide HS1
    have hsz : ∀ v : Value, ∀ B e s k xs, W2.ownsRow B e s v k xs → W4.ownsRow B e s v k xs := fun v B e s k xs h => own_keep h fun g hg => hb24.block g (h.lt g hg).2
    refine ⟨(unhide HBL1).trans (((unhide HBB).mono (by rw [hs1]; omega)).trans (hb34.mono (by omega))), ?_, ?_, ?_, ?_, ?_, ?_, hMN⟩
    · exact (hb34.block N (by omega)).trans (unhide HX2)
    · exact (hb34.block (N + 1) (by omega)).trans (unhide HR2)
    · rw [← unhide HCN, ← unhide HKN, ← unhide HGN, ← unhide HLF]; exact unhide HX4
    · have := hsz _ _ _ _ _ _ how.c
      rw [hs1] at this
      simpa [wC] using this
    · have := hsz _ _ _ _ _ _ how.k
      rw [hs1] at this
      simpa [wK] using this
    · have := hsz _ _ _ _ _ _ how.g
      rw [hs1] at this
      simpa [wG] using this
  clear HX3 HB3 HS3 HX4 HE4 HX2 HR2 HBB HOW HX0 HB0 HS0 HX1 HB1 HS1 HX1b HBL1 HM H2
  go_loopw [4] (fun i wr => ∃ (k : Nat) (b : Nv), k ≤ 40 ∧ i = .int .i64 k ∧ Hid (Ln u wr N M (.cells #[.bool lf, .slice ca cn cc, .slice ka kn kc, .slice ga gn gc] 26 (0, 0)) n k k k b)) (fun i _ => 40 - (intOf i).toNat)
  case atStart => exact ⟨0, b, by omega, rfl, unhide HL0⟩
  case round =>
    clear HL0
    obtain ⟨k, b, hk, rfl, HI⟩ := hrel
    by_cases hlt : k < 40
    · have hki : (k : Int) < 40 := by omega
      have hmd := (unhide HI).made
      rw [← unhide HCN, ← unhide HKN, ← unhide HGN, ← unhide HLF] at hmd
      obtain ⟨z0, z1, z2, z3⟩ := box4 hmd
      have hoc := (unhide HI).c
      rw [← unhide HCN] at hoc
      have HOC := hide hoc
      have HZ : Hid (N + 2 ≤ wr.heap.size) := by have h1 := (Array.getElem?_eq_some_iff.1 (unhide HI).made).1; have h2 := (unhide HI).hM; show N + 2 ≤ _; omega
      have hw1 : IntKind.i64.wrap (97 + (k : Int)) = 97 + (k : Int) := by rw [IntKind.wrap_i64]; omega
      have hw2 : wrap64 (97 + (k : Int)) = 97 + (k : Int) := by unfold wrap64; omega
      have hw3 : IntKind.i32.wrap (97 + (k : Int)) = 97 + (k : Int) := by unfold IntKind.wrap; simp [IntKind.bits, IntKind.signed]; omega
      have hw4 : IntKind.i64.wrap (1000000 + (k : Int)) = 1000000 + (k : Int) := by rw [IntKind.wrap_i64]; omega
      have hw5 : wrap64 (1000000 + (k : Int)) = 1000000 + (k : Int) := by unfold wrap64; omega
      have hcv : ∀ W : World, (convert 3 50 (.int .i64 (1000000 + (k : Int)))).run Try.prog W = .ok (.int .u32 ((maG k : Nat) : Int)) W := fun W => by
        have e : (1000000 + (k : Int)) = ((maG k : Nat) : Int) := by unfold maG; omega
        rw [e]
        have hm : maG k < 4294967296 := by unfold maG; omega
        generalize maG k = m at *
        have hw : IntKind.u32.wrap (m : Int) = (m : Int) := by unfold IntKind.wrap; simp [IntKind.bits, IntKind.signed]; omega
        go_simp
      have hcat : ∀ W : World, (Op.stringOp .add ⟨#[109, 97, 114, 107]⟩ (Utf8.encode (97 + (k : Int)))).run Try.prog W = .ok (.string (maK k)) W := fun W => run_string_add_sum W _ _ (by have := enc_le (97 + (k : Int)); simp only [ByteArray.size_mk']; simp; omega)
      clear hmd hoc
      go_wp2_with (first
        | (at_builtin; refine W.wpList_put _ rfl (.tmp 12) (.tmp 18) 22 rfl (N + 2) 66 i0 (.agg #[.string ⟨#[]⟩, .string ⟨#[]⟩]) 2 32 undC (unhide HI0).1 (unhide HI0).2.1 (unhide HI0).2.2.1 (unhide HI0).2.2.2 rfl (by decide) (.slice b.ca (cn + k) b.cc) (cn + k) (flatC (wC n.cells k)) rfl ((unhide HOC).alloc _) ⟨_, 0, none⟩ 1 1 [.string ⟨#[109, 97, 114, 107]⟩, .string (Utf8.encode (97 + (k : Int)))] rfl rfl (two_new _ _ _ _) (by simp [Value.oneCell']) (by simp only [maxLen]; omega) (by omega) (by simp; have := unhide HZ; omega) ?_; intro v' w10 hown' hgrow hnew; clear hnew; obtain ⟨ao2, cp2, rfl⟩ := W.owns_shape hown'; have hgr2 := hgrow; rw [unhide HCN] at hgr2 hown'; have hmd := (unhide HI).mid hgr2 (not_node (unhide HI).c (by decide) (unhide HI).made); have HL5 := hide ((unhide HI).putC hgr2 (by rw [wC_succ]; exact hown')); rw [← unhide HCN, ← unhide HKN, ← unhide HGN, ← unhide HLF] at hmd; clear z0 z1 z2 z3 hown' hgrow hgr2; obtain ⟨z0, z1, z2, z3⟩ := box4 hmd; have zf1 := row_free hmd 1; have hok := (unhide HL5).k; rw [← unhide HKN, ← unhide HCN] at hok; rw [← unhide HCN] at HL5; have HOK := hide hok; have HZ5 : Hid (N + 2 ≤ (w10.setCell ⟨M, 1, none⟩ (.slice ao2 (cn + k + 1) cp2)).heap.size) := (unhide HL5).sz; clear hmd hok)
        | (at_builtin; refine W.wpList_put _ rfl (.tmp 22) (.tmp 28) 23 rfl (N + 2) 9 i1 (.string ⟨#[]⟩) 1 16 undSt (unhide HI1).1 (unhide HI1).2.1 (unhide HI1).2.2.1 (unhide HI1).2.2.2 rfl (by decide) (.slice b.ka (kn + k) b.kc) (kn + k) (flatK (wK n.keys k)) rfl ((unhide HOK).alloc _) ⟨_, 0, none⟩ 1 1 [.string (maK k)] rfl rfl (one_newS _ _ _ _ _) (by simp [Value.oneCell']) (by simp only [maxLen]; omega) (by omega) (by have := unhide HZ5; simp at this ⊢; omega) ?_; intro v' w11 hown' hgrow hnew; clear hnew; obtain ⟨ao3, cp3, rfl⟩ := W.owns_shape hown'; have hgr2 := hgrow; rw [unhide HKN] at hgr2 hown'; have hmd := (unhide HL5).mid hgr2 (not_node (unhide HL5).k (by decide) (unhide HL5).made); have HL6 := hide ((unhide HL5).putK hgr2 (by rw [wK_succ]; exact hown')); rw [← unhide HCN, ← unhide HKN, ← unhide HGN, ← unhide HLF] at hmd; clear z0 z1 z2 z3 zf1 hown' hgrow hgr2; obtain ⟨z0, z1, z2, z3⟩ := box4 hmd; have zf2 := row_free hmd 2; have hog := (unhide HL6).g; rw [← unhide HKN, ← unhide HGN] at hog; rw [← unhide HKN] at HL6; have HOG := hide hog; have HZ6 : Hid (N + 2 ≤ (w11.setCell ⟨M, 2, none⟩ (.slice ao3 (kn + k + 1) cp3)).heap.size) := (unhide HL6).sz; clear hmd hog)
        | (at_builtin; refine W.wpList_put _ rfl (.tmp 32) (.tmp 36) 24 rfl (N + 2) 50 i2 (.int .u32 0) 1 4 undG (unhide HI2).1 (unhide HI2).2.1 (unhide HI2).2.2.1 (unhide HI2).2.2.2 rfl (by decide) (.slice b.ga (gn + k) b.gc) (gn + k) (flatG (wG n.kids k)) rfl ((unhide HOG).alloc _) ⟨_, 0, none⟩ 1 1 [.int .u32 ((maG k : Nat) : Int)] rfl rfl (one_newS _ _ _ _ _) (by simp [Value.oneCell']) (by simp only [maxLen]; omega) (by omega) (by have := unhide HZ6; simp at this ⊢; omega) ?_; intro v' w12 hown' hgrow hnew; clear hnew; obtain ⟨ao4, cp4, rfl⟩ := W.owns_shape hown'; have hgr2 := hgrow; rw [unhide HGN] at hgr2 hown'; have hmd := (unhide HL6).mid hgr2 (not_node (unhide HL6).g (by decide) (unhide HL6).made); have HL7 := hide ((unhide HL6).putG hgr2 (by rw [wG_succ]; exact hown')); rw [← unhide HCN, ← unhide HKN, ← unhide HGN, ← unhide HLF] at hmd; clear z0 z1 z2 z3 zf2 hown' hgrow hgr2; obtain ⟨z0, z1, z2, z3⟩ := box4 hmd; have zf3 := row_free hmd 3; rw [← unhide HGN] at HL7; clear hmd)
        | fail)
      go_wp2
      go_roundw
      case rel => exact ⟨k + 1, _, by omega, by go_num, unhide HL7⟩
      case measure => simp [intOf]; omega
    · obtain rfl : k = 40 := by omega
      have hmd := (unhide HI).made
      have hoc := own_pos (unhide HI).c (by omega)
      have hok := own_pos (unhide HI).k (by omega)
      have hog := own_pos (unhide HI).g (by omega)
      rw [← unhide HCN, ← unhide HKN, ← unhide HGN, ← unhide HLF] at hmd
      rw [← unhide HCN] at hoc
      rw [← unhide HKN] at hok
      rw [← unhide HGN] at hog
      obtain ⟨hc1, g1, hg1⟩ := hoc
      obtain ⟨hc2, g2, hg2⟩ := hok
      obtain ⟨hc3, g3, hg3⟩ := hog
      obtain ⟨ba, bc, bb, bd, be, bf⟩ := b
      subst hg1 hg2 hg3
      have hc1 : cn + 40 ≤ bc := hc1
      have hc2 : kn + 40 ≤ bd := hc2
      have hc3 : gn + 40 ≤ bf := hc3
      obtain ⟨z0, z1, z2, z3⟩ := box4 hmd
      obtain ⟨y0, y1, y2, y3⟩ := box4 (unhide HI).box
      have zf1 := row_free hmd 1
      have zf2 := row_free hmd 2
      have zf3 := row_free hmd 3
      have e1 := cutC g1 0 (cn + 40) bc cn (by omega) (by omega)
      have e2 := cutK g2 0 (kn + 40) bd kn (by omega) (by omega)
      have e3 := cutG g3 0 (gn + 40) bf gn (by omega) (by omega)
      have hNM : ¬ N = M := by have := unhide HMN; omega
      have hMN' : ¬ M = N := fun h => hNM h.symm
      have HZ : Hid (∀ x y z, ((((wr.setCell ⟨M, 1, none⟩ x).setCell ⟨M, 2, none⟩ y).setCell ⟨M, 3, none⟩ z).heap[N + 1]? = some (.cells #[.bool false, .slice none 0 0, .slice none 0 0, .slice none 0 0] 26 (0, 0)))) := fun x y z => by
        have := unhide HMN
        rw [Below.heap_setCell _ ⟨M, 3, none⟩ _ (N + 1) (by show N + 1 ≠ M; omega), Below.heap_setCell _ ⟨M, 2, none⟩ _ (N + 1) (by show N + 1 ≠ M; omega), Below.heap_setCell _ ⟨M, 1, none⟩ _ (N + 1) (by show N + 1 ≠ M; omega)]
        exact (unhide HI).res
      clear hmd
      go_wp2_with (first
        | ((with_reducible refine wpList_store_node (by rfl) (.tmp 2) (.tmp 60) (by rfl) (N + 1) lf (some ⟨g1, 0, none⟩) cn bc (some ⟨g2, 0, none⟩) kn bd (some ⟨g3, 0, none⟩) gn bf (by with_unfolding_all rfl) (by with_unfolding_all rfl) (unhide HZ _ _ _) ?_); intro W8 HX8 HE8; simp only [Act.put])
        | fail)
      have hMN := unhide HMN
      have hI := unhide HI
      have HB8 : Hid (Below N u W8) := by
        rw [unhide HE8]
        exact belowRow (belowCell (p := ⟨M, 3, none⟩) (belowCell (p := ⟨M, 2, none⟩) (belowCell (p := ⟨M, 1, none⟩) hI.bel (show N ≤ M by omega) _) (show N ≤ M by omega) _) (show N ≤ M by omega) _) (Nat.le_succ N) _
      have hkeep : ∀ x, x ≠ M → x ≠ N + 1 → W8.heap[x]? = wr.heap[x]? := fun x hx hy => by
        rw [unhide HE8, heapRow_other _ (N + 1) x _ hy, Below.heap_setCell _ ⟨M, 3, none⟩ _ x hx, Below.heap_setCell _ ⟨M, 2, none⟩ _ x hx, Below.heap_setCell _ ⟨M, 1, none⟩ _ x hx]
      have hown : ∀ (e size k : Nat) (v : Value) (xs : List Value), wr.ownsRow (N + 2) e size v k xs → e ≠ 26 → W8.ownsRow N e size v k xs := fun e size k v xs h hne => own_down (own_keep h fun g hg => hkeep g (not_node h hne hI.made g hg) (by have := (h.lt g hg).1; omega)) (by omega)
      have HLE : Hid (Le W8 N n ⟨some ⟨g1, 0, none⟩, bc, some ⟨g2, 0, none⟩, bd, some ⟨g3, 0, none⟩, bf⟩) := by
        refine Le.mk' (unhide HA) ⟨?_, ?_, ?_⟩
        · rw [wC_len]; exact hown _ _ _ _ _ hI.c (by decide)
        · rw [wK_len]; exact hown _ _ _ _ _ hI.k (by decide)
        · rw [wG_len]; exact hown _ _ _ _ _ hI.g (by decide)
      refine bodyPost_ret (results_cell rfl _ _ (N + 1) 26 #[.bool lf, .slice (some ⟨g1, 0, none⟩) cn bc, .slice (some ⟨g2, 0, none⟩) kn bd, .slice (some ⟨g3, 0, none⟩) gn bf] (0, 0) _ rfl (unhide HX8) nodeUnd rfl nodeInfo) rfl ?_
      refine ⟨_, ?_, unhide HLE, unhide HB8⟩
      rw [unhide HV]
end Go.Proofs.Ytppmpomfihalfaa
