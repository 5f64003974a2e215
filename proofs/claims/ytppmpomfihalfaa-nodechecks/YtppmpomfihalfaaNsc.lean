/- Nodes, the document's side: Body (written by mknsc.py). -/
import Derived.Test.YtppmpomfihalfaaNrx
import Derived.Test.YtppmpomfihalfaaNry
import Derived.Test.YtppmpomfihalfaaNsb
namespace Go.Proofs.Ytppmpomfihalfaa
open Go.RowKit

theorem entTx : ∀ args (w : World), (callFunc 108 args).run Try.prog w = .ok (.enter 108 args) w := by
  intro args w
  go_simp
theorem entFx : ∀ args (w : World), (callFunc 107 args).run Try.prog w = .ok (.enter 107 args) w := by
  intro args w
  go_simp
theorem catL (x y : List UInt8) (hx : x.length ≤ 8388608) (hy : y.length ≤ 8388608) (W : World) : (Op.stringOp .add ⟨x.toArray⟩ ⟨y.toArray⟩).run Try.prog W = .ok (.string ⟨(x ++ y).toArray⟩) W :=
  run_string_add_lists W x y (by omega) (by omega)
theorem rText (t : ByteArray) (w : World) (ht : t.size ≤ 320) (T : List UInt8) (hT : T = textB t) : Calls Try.prog 108 #[.string t] w fun e w' => ∃ v, e = .returned v ∧ v = .string ⟨T.toArray⟩ ∧ Below w.heap.size w w' := by
  subst hT
  exact (W.mwText t w (by omega)).mono fun _ _ hh => ⟨_, hh.1, rfl, hh.2⟩
theorem rFixed (v n : Nat) (w : World) (hv : v < 18446744073709551616) (hn : n ≤ 8) (F : List UInt8) (hF : F = W.fixB v n) : Calls Try.prog 107 #[.int .u64 (v : Int), .int .i64 (n : Int)] w fun e w' => ∃ r, e = .returned r ∧ r = .string ⟨F.toArray⟩ ∧ Below w.heap.size w w' := by
  subst hF
  exact (W.mwFixed v n w hv hn).mono fun _ _ hh => ⟨_, hh.1, rfl, hh.2⟩
theorem wrap_su {k k1 : Nat} (h : (k : Int) ≤ 1993) (hk : k1 = k + 1) : wrap64 ((k : Int) + 1) = (k1 : Int) ∧ IntKind.i64.wrap ((k : Int) + 1) = (k1 : Int) := by
  subst hk
  constructor
  · unfold wrap64; omega
  · rw [IntKind.wrap_i64]; omega
theorem u64_same {k : Nat} (h : (k : Int) ≤ 18446744073709551615) : IntKind.u64.wrap (k : Int) = (k : Int) := by
  unfold IntKind.wrap; simp [IntKind.bits, IntKind.signed]; omega
set_option maxRecDepth 100000 in
set_option maxHeartbeats 8000000 in
theorem rBodyL (n : Nd) (a : Nv) (u : World) (h : NdAt u n a) (hok : n.Ok) (hlf : n.leaf = true) : Calls Try.prog 64 #[a.v n] u fun e u' => e = .returned (.string ⟨n.body.toArray⟩) ∧ Below u.heap.size u u' := by
  have hle := hok.lens.1
  have hsm := hok.small.1
  have HC : Hid (Lies u a.ca (flatC n.cells)) := h.cells
  have hbody : n.body = [1] ++ W.fixB n.cells.length 2 ++ cellsB n.cells := by unfold Nd.body; rw [hlf]; rfl
  obtain ⟨N, hN⟩ : ∃ N, N = u.heap.size := ⟨_, rfl⟩
  have HN := hide hN
  rw [← hN]
  clear hN h
  rw [Nv.v_eq, hlf, hbody]
  clear hbody hlf hok
  obtain ⟨ca, cc, ka, kc, ga, gc⟩ := a
  have HC : Hid (Lies u ca (flatC n.cells)) := unhide HC
  generalize n.keys.length = kn at *
  generalize n.kids.length = gn at *
  obtain ⟨_, cs, _, _⟩ := n
  have HC : Hid (Lies u ca (flatC cs)) := unhide HC
  have hsm : ∀ c ∈ cs, c.Ok := hsm
  have hle : cs.length ≤ 1992 := hle
  show Calls Try.prog 64 #[.agg #[.bool true, .slice ca cs.length cc, .slice ka kn kc, .slice ga gn gc]] u fun e u' => e = .returned (.string ⟨([1] ++ W.fixB cs.length 2 ++ cellsB cs).toArray⟩) ∧ Below N u u'
  obtain ⟨F1, hF1⟩ : ∃ F, F = W.fixB cs.length 2 := ⟨_, rfl⟩
  have HF1 := hide (fun v : World => rFixed cs.length 2 v (by omega) (by omega) F1 hF1)
  have hl1 : F1.length = 2 := by rw [hF1, W.fixB_length]
  rw [← hF1]
  have HSM := hide hsm
  have HLEN := hide (fun k : Nat => cellsB_le hsm k)
  have HTK := hide (fun (k : Nat) (hk : k < cs.length) => cellsB_take (l := cs) hk)
  have HALL : Hid (cellsB (cs.take cs.length) = cellsB cs) := by show _ = _; rw [List.take_length]
  obtain ⟨cn, hcn⟩ : ∃ cn, cn = cs.length := ⟨_, rfl⟩
  have HCN := hide hcn
  rw [← hcn] at HF1 hle HALL ⊢
  have hcni : (cn : Int) ≤ 1992 := by omega
  have hw0 := u64_same (k := cn) (by omega)
  have hcat0 := catL [1] F1 (by simp) (by omega)
  clear hcn hF1 hsm
  go_enter Try.func64, Try.ntmps64
  go_wp2_with (first
    | ((with_reducible refine wpList_box_node (by rfl) (.tmp 0) (by rfl) (some 1) (by rfl) N (unhide HN) true ca cn cc ka kn kc ga gn gc (by with_unfolding_all rfl) ?_); intro W0 HX0 HB0 HS0; simp only [Act.put, List.setIfInBounds_toArray, List.set_cons_zero, List.set_cons_succ]; obtain ⟨y0, y1, y2, y3⟩ := box4 (unhide HX0))
    | fail)
  refine (unhide HF1 _).mono ?_
  rintro e W1 ⟨r, rfl, rfl, hb1⟩
  have HK1 := hide (Kb.below ⟨unhide HB0, unhide HX0⟩ hb1)
  clear hb1 HX0 HB0 HS0 y0 y1 y2 y3 HF1
  go_wp2_with fail
  go_loopw [3, 4] (fun s i wr => ∃ k : Nat, k ≤ cn ∧ s = .string ⟨([1] ++ F1 ++ cellsB (cs.take k)).toArray⟩ ∧ i = .int .i64 k ∧ Hid (Kb u wr N (.cells #[.bool true, .slice ca cn cc, .slice ka kn kc, .slice ga gn gc] 26 (0, 0)))) (fun _ i _ => cn - (intOf i).toNat)
  case atStart => exact ⟨0, Nat.zero_le _, by simp [cellsB], rfl, unhide HK1⟩
  case round =>
    clear HK1
    obtain ⟨k, hk, rfl, rfl, HI⟩ := hrel
    obtain ⟨y0, y1, y2, y3⟩ := box4 (unhide HI).2
    by_cases hlt : k < cn
    · have hki : (k : Int) < (cn : Int) := by omega
      have hkl : k < cs.length := by rw [← unhide HCN]; exact hlt
      obtain ⟨S, hS0⟩ : ∃ S, S = [1] ++ F1 ++ cellsB (cs.take k) := ⟨_, rfl⟩
      have hSl : S.length ≤ 8000000 := by
        have := unhide HLEN k
        rw [hS0, List.length_append, List.length_append, hl1]
        simp only [List.length_cons, List.length_nil]
        omega
      have HQ := hide (unhide HSM cs[k] (List.getElem_mem hkl))
      have HTKk := hide (unhide HTK k hkl)
      have hbw0 : Below u.heap.size u wr := by rw [← unhide HN]; exact (unhide HI).1
      obtain ⟨g, o, hao, _, _⟩ := ((unhide HC).below hbw0).cl hkl
      have HCL : Hid (∀ W : World, Kb u W N (.cells #[.bool true, .slice ca cn cc, .slice ka kn kc, .slice ga gn gc] 26 (0, 0)) → W.cell? ⟨g, o + k * 2, none⟩ = some (.string cs[k].key) ∧ W.cell? ⟨g, o + k * 2 + 1, none⟩ = some (.string cs[k].val)) := fun W hW => by
        obtain ⟨g', o', hao', c1, c2⟩ := ((unhide HC).below (by rw [← unhide HN]; exact hW.1)).cl hkl
        rw [hao] at hao'
        cases hao'
        exact ⟨c1, c2⟩
      subst hao
      have hix := ixCells g o cn cc k hlt
      generalize hck : cs[k] = c at *
      clear hck hbw0
      obtain ⟨q, p⟩ := c
      have HCL : Hid (∀ W : World, Kb u W N (.cells #[.bool true, .slice (some ⟨g, o, none⟩) cn cc, .slice ka kn kc, .slice ga gn gc] 26 (0, 0)) → W.cell? ⟨g, o + k * 2, none⟩ = some (.string q) ∧ W.cell? ⟨g, o + k * 2 + 1, none⟩ = some (.string p)) := unhide HCL
      have hq3 : 1 ≤ q.size ∧ q.size + p.size ≤ 320 := unhide HQ
      obtain ⟨T1, hT1⟩ : ∃ T, T = textB q := ⟨_, rfl⟩
      obtain ⟨T2, hT2⟩ : ∃ T, T = textB p := ⟨_, rfl⟩
      have HT1 := hide (fun v : World => rText q v (by omega) T1 hT1)
      have HT2 := hide (fun v : World => rText p v (by omega) T2 hT2)
      have ht1 : T1.length ≤ 322 := by rw [hT1, textB_len (by omega)]; exact tsz_le (by omega)
      have ht2 : T2.length ≤ 322 := by rw [hT2, textB_len (by omega)]; exact tsz_le (by omega)
      have hcat1 := catL S T1 (by omega) (by omega)
      have hcat2 := catL (S ++ T1) T2 (by rw [List.length_append]; omega) (by omega)
      have HNX : Hid ([1] ++ F1 ++ cellsB (cs.take (k + 1)) = S ++ T1 ++ T2) := by
        show _ = _
        rw [unhide HTKk, hS0, hT1, hT2]
        simp [cellB, List.append_assoc]
      rw [← hS0]
      generalize o + k * 2 = j2 at *
      clear hS0 hT1 hT2 hSl HQ hq3 ht1 ht2 HTKk hkl
      go_wp2_with fail
      clear y0 y1 y2 y3
      have hmix : Try.prog.follows .mixedOrders = true := by kernel_rfl
      refine wp_region_last (fun W => Kb u W N (.cells #[.bool true, .slice (some ⟨g, o, none⟩) cn cc, .slice ka kn kc, .slice ga gn gc] 26 (0, 0))) 17 hmix ((unhide HI).below (belowDrewN (Below.refl _ _) 1)) fun hS => ?_
      · skip
        refine wpAnyL_take 0 22 (.string ⟨S.toArray⟩) [] rfl rfl (by kernel_rfl) (by kernel_rfl) (by kernel_rfl) (by kernel_rfl) (by kernel_rfl) (fun _ _ _ h => h) (by rfl) (fun u _ => by go_simp) hS ?_
        simp only [Act.put, List.setIfInBounds_toArray, List.set_cons_zero, List.set_cons_succ]
        refine wpAnyL_take 1 23 (.pointer (some ⟨N, 1, none⟩)) [] rfl rfl (by kernel_rfl) (by kernel_rfl) (by kernel_rfl) (by kernel_rfl) (by kernel_rfl) (fun _ _ _ h => h) (by rfl) (fun u _ => by go_simp) hS ?_
        simp only [Act.put, List.setIfInBounds_toArray, List.set_cons_zero, List.set_cons_succ]
        refine wpAnyL_take 2 24 (.slice (some ⟨g, o, none⟩) cn cc) [] rfl rfl (by kernel_rfl) (by kernel_rfl) (by kernel_rfl) (by kernel_rfl) (by kernel_rfl) (fun _ _ _ h => h) (by rfl) (fun W hW => by obtain ⟨x0, x1, x2, x3⟩ := box4 hW.2; go_simp) hS ?_
        simp only [Act.put, List.setIfInBounds_toArray, List.set_cons_zero, List.set_cons_succ]
        refine wpAnyL_take 3 25 (.int .i64 (k : Int)) [] rfl rfl (by kernel_rfl) (by kernel_rfl) (by kernel_rfl) (by kernel_rfl) (by kernel_rfl) (fun _ _ _ h => h) (by rfl) (fun u _ => by go_simp) hS ?_
        simp only [Act.put, List.setIfInBounds_toArray, List.set_cons_zero, List.set_cons_succ]
        refine wpAnyL_take 4 26 (.pointer (some ⟨g, j2, none⟩)) [] rfl rfl (by kernel_rfl) (by kernel_rfl) (by kernel_rfl) (by kernel_rfl) (by kernel_rfl) (fun _ _ _ h => h) (by rfl) (fun u _ => by go_simp) hS ?_
        simp only [Act.put, List.setIfInBounds_toArray, List.set_cons_zero, List.set_cons_succ]
        refine wpAnyL_take 5 27 (.pointer (some ⟨g, j2, none⟩)) [] rfl rfl (by kernel_rfl) (by kernel_rfl) (by kernel_rfl) (by kernel_rfl) (by kernel_rfl) (fun _ _ _ h => h) (by rfl) (fun u _ => by go_simp) hS ?_
        simp only [Act.put, List.setIfInBounds_toArray, List.set_cons_zero, List.set_cons_succ]
        refine wpAnyL_take 6 28 (.string q) [] rfl rfl (by kernel_rfl) (by kernel_rfl) (by kernel_rfl) (by kernel_rfl) (by kernel_rfl) (fun _ _ _ h => h) (by rfl) (fun W hW => by have hx := (unhide HCL W hW).1; go_simp) hS ?_
        simp only [Act.put, List.setIfInBounds_toArray, List.set_cons_zero, List.set_cons_succ]
        refine wpAnyL_take 9 31 (.pointer (some ⟨N, 1, none⟩)) [] rfl rfl (by kernel_rfl) (by kernel_rfl) (by kernel_rfl) (by kernel_rfl) (by kernel_rfl) (fun _ _ _ h => h) (by rfl) (fun u _ => by go_simp) hS ?_
        simp only [Act.put, List.setIfInBounds_toArray, List.set_cons_zero, List.set_cons_succ]
        refine wpAnyL_take 10 32 (.slice (some ⟨g, o, none⟩) cn cc) [] rfl rfl (by kernel_rfl) (by kernel_rfl) (by kernel_rfl) (by kernel_rfl) (by kernel_rfl) (fun _ _ _ h => h) (by rfl) (fun W hW => by obtain ⟨x0, x1, x2, x3⟩ := box4 hW.2; go_simp) hS ?_
        simp only [Act.put, List.setIfInBounds_toArray, List.set_cons_zero, List.set_cons_succ]
        refine wpAnyL_take 11 33 (.int .i64 (k : Int)) [] rfl rfl (by kernel_rfl) (by kernel_rfl) (by kernel_rfl) (by kernel_rfl) (by kernel_rfl) (fun _ _ _ h => h) (by rfl) (fun u _ => by go_simp) hS ?_
        simp only [Act.put, List.setIfInBounds_toArray, List.set_cons_zero, List.set_cons_succ]
        refine wpAnyL_take 12 34 (.pointer (some ⟨g, j2, none⟩)) [] rfl rfl (by kernel_rfl) (by kernel_rfl) (by kernel_rfl) (by kernel_rfl) (by kernel_rfl) (fun _ _ _ h => h) (by rfl) (fun u _ => by go_simp) hS ?_
        simp only [Act.put, List.setIfInBounds_toArray, List.set_cons_zero, List.set_cons_succ]
        refine wpAnyL_take 13 35 (.pointer (some ⟨g, j2 + 1, none⟩)) [] rfl rfl (by kernel_rfl) (by kernel_rfl) (by kernel_rfl) (by kernel_rfl) (by kernel_rfl) (fun _ _ _ h => h) (by rfl) (fun u _ => by go_simp) hS ?_
        simp only [Act.put, List.setIfInBounds_toArray, List.set_cons_zero, List.set_cons_succ]
        refine wpAnyL_take 14 36 (.string p) [] rfl rfl (by kernel_rfl) (by kernel_rfl) (by kernel_rfl) (by kernel_rfl) (by kernel_rfl) (fun _ _ _ h => h) (by rfl) (fun W hW => by have hx := (unhide HCL W hW).2; go_simp) hS ?_
        simp only [Act.put, List.setIfInBounds_toArray, List.set_cons_zero, List.set_cons_succ]
        refine wpAnyL_one (i := 7) (by kernel_rfl) rfl (by rfl) fun K hK => ?_
        refine wp_call_fn 108 _ _ (by rfl) #[.string q] (by with_unfolding_all rfl) entTx (some 29) (by rfl) _ (unhide HT1 _) ?_
        rintro _ V5 ⟨rfl, hb5⟩
        have hS5 := hS.below hb5
        refine hK _ _ (fun _ => hS5) ?_
        clear hK K hS hb5
        have hS := hS5
        clear hS5
        simp only [Act.put, List.setIfInBounds_toArray, List.set_cons_zero, List.set_cons_succ]
        refine wpAnyL_take 8 30 (.string ⟨(S ++ T1).toArray⟩) [] rfl rfl (by kernel_rfl) (by kernel_rfl) (by kernel_rfl) (by kernel_rfl) (by kernel_rfl) (fun _ _ _ h => h) (by rfl) (fun u _ => by go_simp) hS ?_
        simp only [Act.put, List.setIfInBounds_toArray, List.set_cons_zero, List.set_cons_succ]
        refine wpAnyL_one (i := 15) (by kernel_rfl) rfl (by rfl) fun K hK => ?_
        refine wp_call_fn 108 _ _ (by rfl) #[.string p] (by with_unfolding_all rfl) entTx (some 37) (by rfl) _ (unhide HT2 _) ?_
        rintro _ V6 ⟨rfl, hb5⟩
        have hS5 := hS.below hb5
        refine hK _ _ (fun _ => hS5) ?_
        clear hK K hS hb5
        have hS := hS5
        clear hS5
        simp only [Act.put, List.setIfInBounds_toArray, List.set_cons_zero, List.set_cons_succ]
        refine wpAnyL_take 16 38 (.string ⟨(S ++ T1 ++ T2).toArray⟩) [] rfl rfl (by kernel_rfl) (by kernel_rfl) (by kernel_rfl) (by kernel_rfl) (by kernel_rfl) (fun _ _ _ h => h) (by rfl) (fun u _ => by go_simp) hS ?_
        simp only [Act.put, List.setIfInBounds_toArray, List.set_cons_zero, List.set_cons_succ]
        refine wpAnyL_one (i := 17) (by kernel_rfl) rfl (by rfl) fun K hK => ?_
        refine wp_val (.string ⟨(S ++ T1 ++ T2).toArray⟩) (by go_simp) (some 3) (by rfl) ?_
        have HS7 := hide hS
        refine hK _ _ (fun h => absurd rfl h) ?_
        clear hK K hS
        simp only [Act.put, List.setIfInBounds_toArray, List.set_cons_zero, List.set_cons_succ]
        refine wpAnyL_done (by kernel_rfl) ?_ _
        go_wp2
        go_roundw
        case rel => exact ⟨k + 1, by omega, by rw [unhide HNX], by go_num, unhide HS7⟩
        case measure => simp [intOf]; omega
    · obtain rfl : k = cn := by omega
      have hki : ¬ (k : Int) < (k : Int) := by omega
      rw [unhide HALL]
      go_wp2
      go_ret
      exact ⟨rfl, (unhide HI).1⟩
set_option maxRecDepth 100000 in
set_option maxHeartbeats 8000000 in
theorem rBodyB (n : Nd) (a : Nv) (u : World) (h : NdAt u n a) (hok : n.Ok) (hlf : n.leaf = false) : Calls Try.prog 64 #[a.v n] u fun e u' => e = .returned (.string ⟨n.body.toArray⟩) ∧ Below u.heap.size u u' := by
  have hle := hok.lens.2.1
  have hsm := hok.small.2
  have hgk : n.kids.length = n.keys.length + 1 := by
    have hk := hok.kind
    unfold Nd.Kind at hk
    rw [if_neg (by rw [hlf]; decide)] at hk
    exact hk.2.2
  have HK : Hid (Lies u a.ka (flatK n.keys)) := h.keys
  have HG : Hid (Lies u a.ga (flatG n.kids)) := h.kids
  have hkid := h.kid
  have hbody : n.body = [2] ++ W.fixB n.keys.length 2 ++ W.fixB (n.kids.getD 0 0) 4 ++ keysB n.keys n.kids.tail := by unfold Nd.body; rw [hlf]; rfl
  obtain ⟨N, hN⟩ : ∃ N, N = u.heap.size := ⟨_, rfl⟩
  have HN := hide hN
  rw [← hN]
  clear hN h
  rw [Nv.v_eq, hlf, hbody]
  clear hbody hlf hok
  obtain ⟨ca, cc, ka, kc, ga, gc⟩ := a
  generalize n.cells.length = cn at *
  obtain ⟨_, _, ks, gs⟩ := n
  have HK : Hid (Lies u ka (flatK ks)) := unhide HK
  have HG : Hid (Lies u ga (flatG gs)) := unhide HG
  have hsm : ∀ c ∈ ks, keyOk c := hsm
  have hle : ks.length ≤ 1992 := hle
  have hgk : gs.length = ks.length + 1 := hgk
  have hkid : ∀ k ∈ gs, k < 4294967296 := hkid
  obtain ⟨d0, gt, rfl⟩ : ∃ d gt, gs = d :: gt := by
    cases gs with
    | nil => simp at hgk
    | cons d gt => exact ⟨d, gt, rfl⟩
  have hgt : gt.length = ks.length := by simpa using hgk
  show Calls Try.prog 64 #[.agg #[.bool false, .slice ca cn cc, .slice ka ks.length kc, .slice ga (d0 :: gt).length gc]] u fun e u' => e = .returned (.string ⟨([2] ++ W.fixB ks.length 2 ++ W.fixB d0 4 ++ keysB ks gt).toArray⟩) ∧ Below N u u'
  have hd0 : d0 < 4294967296 := hkid d0 (List.mem_cons_self ..)
  obtain ⟨F1, hF1⟩ : ∃ F, F = W.fixB ks.length 2 := ⟨_, rfl⟩
  obtain ⟨F2, hF2⟩ : ∃ F, F = W.fixB d0 4 := ⟨_, rfl⟩
  have HF1 := hide (fun v : World => rFixed ks.length 2 v (by omega) (by omega) F1 hF1)
  have HF2 := hide (fun v : World => rFixed d0 4 v (by omega) (by omega) F2 hF2)
  have hl1 : F1.length = 2 := by rw [hF1, W.fixB_length]
  have hl2 : F2.length = 4 := by rw [hF2, W.fixB_length]
  rw [← hF1, ← hF2]
  have HSM := hide hsm
  have HKID := hide (fun (j : Nat) (hj : j < gt.length) => hkid gt[j] (List.mem_cons_of_mem _ (List.getElem_mem hj)))
  have HLEN := hide (fun (k : Nat) (hk : k ≤ gt.length) => keysB_le (gs := gt) hsm k hk)
  have HTK := hide (fun (k : Nat) (hk : k < ks.length) (hg : k < gt.length) => keysB_take ks gt k hk hg)
  have HALL : Hid (keysB (ks.take ks.length) gt = keysB ks gt) := by show _ = _; rw [List.take_length]
  have HGT := hide hgt
  obtain ⟨kn, hkn⟩ : ∃ kn, kn = ks.length := ⟨_, rfl⟩
  obtain ⟨gn, hgn⟩ : ∃ gn, gn = (d0 :: gt).length := ⟨_, rfl⟩
  have HKN := hide hkn
  have HGN := hide hgn
  have hgn2 : gn = kn + 1 := by rw [hgn, hkn]; exact hgk
  rw [← hkn] at HF1 hle HALL HGT ⊢
  rw [← hgn]
  have hkni : (kn : Int) ≤ 1992 := by omega
  have hw0 := u64_same (k := kn) (by omega)
  have hw1 := u64_same (k := d0) (by omega)
  have hcat0 := catL [2] F1 (by simp) (by omega)
  obtain ⟨P1, hP1⟩ : ∃ P, P = [2] ++ F1 := ⟨_, rfl⟩
  have hlp : P1.length = 3 := by rw [hP1, List.length_append, hl1]; rfl
  rw [← hP1] at hcat0 ⊢
  have hcat1 := catL P1 F2 (by omega) (by omega)
  clear hP1
  have hbw00 : Lies u ga (flatG (d0 :: gt)) := unhide HG
  obtain ⟨g, o, hao, _⟩ := hbw00.kd (i := 0) (by simp)
  have HD0 : Hid (∀ W : World, Kb u W N (.cells #[.bool false, .slice ca cn cc, .slice ka kn kc, .slice ga gn gc] 26 (0, 0)) → W.cell? ⟨g, o, none⟩ = some (.int .u32 (d0 : Int))) := fun W hW => by
    obtain ⟨g', o', hao', c1⟩ := (hbw00.below (by rw [← unhide HN]; exact hW.1)).kd (i := 0) (by simp)
    rw [hao] at hao'
    cases hao'
    exact c1
  have HGA : Hid (∀ (W : World) (j : Nat) (hj : j < gt.length), Kb u W N (.cells #[.bool false, .slice ca cn cc, .slice ka kn kc, .slice ga gn gc] 26 (0, 0)) → W.cell? ⟨g, o + (j + 1), none⟩ = some (.int .u32 (gt[j] : Int))) := fun W j hj hW => by
    obtain ⟨g', o', hao', c1⟩ := (hbw00.below (by rw [← unhide HN]; exact hW.1)).kd (i := j + 1) (by simpa using hj)
    rw [hao] at hao'
    cases hao'
    exact c1
  subst hao
  have hix0 : ∀ W, (Instr.indexAt 24 (.slice (some ⟨g, o, none⟩) gn gc) (.int .i64 0)).run Try.prog W = .ok (.pointer (some ⟨g, o, none⟩)) W := fun W => ixKids g o gn gc 0 (by omega) W
  have HG2 := hide hgn2
  clear hkn hgn hF1 hF2 hsm hkid hgk hbw00 hgt hgn2
  go_enter Try.func64, Try.ntmps64
  go_wp2_with (first
    | ((with_reducible refine wpList_box_node (by rfl) (.tmp 0) (by rfl) (some 1) (by rfl) N (unhide HN) false ca cn cc ka kn kc (some ⟨g, o, none⟩) gn gc (by with_unfolding_all rfl) ?_); intro W0 HX0 HB0 HS0; simp only [Act.put, List.setIfInBounds_toArray, List.set_cons_zero, List.set_cons_succ]; obtain ⟨y0, y1, y2, y3⟩ := box4 (unhide HX0))
    | fail)
  have HK0 : Hid (Kb u W0 N (.cells #[.bool false, .slice ca cn cc, .slice ka kn kc, .slice (some ⟨g, o, none⟩) gn gc] 26 (0, 0))) := ⟨unhide HB0, unhide HX0⟩
  clear HX0 HB0 HS0 y0 y1 y2 y3
  have hmix : Try.prog.follows .mixedOrders = true := by kernel_rfl
  refine wp_region_last (fun W => Kb u W N (.cells #[.bool false, .slice ca cn cc, .slice ka kn kc, .slice (some ⟨g, o, none⟩) gn gc] 26 (0, 0))) 13 hmix ((unhide HK0).below (belowDrewN (Below.refl _ _) 1)) fun hS => ?_
  · skip
    refine wpAnyL_take 0 40 (.pointer (some ⟨N, 2, none⟩)) [] rfl rfl (by kernel_rfl) (by kernel_rfl) (by kernel_rfl) (by kernel_rfl) (by kernel_rfl) (fun _ _ _ h => h) (by rfl) (fun u _ => by go_simp) hS ?_
    simp only [Act.put, List.setIfInBounds_toArray, List.set_cons_zero, List.set_cons_succ]
    refine wpAnyL_take 1 41 (.slice ka kn kc) [] rfl rfl (by kernel_rfl) (by kernel_rfl) (by kernel_rfl) (by kernel_rfl) (by kernel_rfl) (fun _ _ _ h => h) (by rfl) (fun W hW => by obtain ⟨x0, x1, x2, x3⟩ := box4 hW.2; go_simp) hS ?_
    simp only [Act.put, List.setIfInBounds_toArray, List.set_cons_zero, List.set_cons_succ]
    refine wpAnyL_take 2 42 (.int .i64 (kn : Int)) [] rfl rfl (by kernel_rfl) (by kernel_rfl) (by kernel_rfl) (by kernel_rfl) (by kernel_rfl) (fun _ _ _ h => h) (by rfl) (fun u _ => by go_simp) hS ?_
    simp only [Act.put, List.setIfInBounds_toArray, List.set_cons_zero, List.set_cons_succ]
    refine wpAnyL_take 3 43 (.int .u64 (kn : Int)) [] rfl rfl (by kernel_rfl) (by kernel_rfl) (by kernel_rfl) (by kernel_rfl) (by kernel_rfl) (fun _ _ _ h => h) (by rfl) (fun u _ => by go_simp) hS ?_
    simp only [Act.put, List.setIfInBounds_toArray, List.set_cons_zero, List.set_cons_succ]
    refine wpAnyL_take 6 46 (.pointer (some ⟨N, 3, none⟩)) [] rfl rfl (by kernel_rfl) (by kernel_rfl) (by kernel_rfl) (by kernel_rfl) (by kernel_rfl) (fun _ _ _ h => h) (by rfl) (fun u _ => by go_simp) hS ?_
    simp only [Act.put, List.setIfInBounds_toArray, List.set_cons_zero, List.set_cons_succ]
    refine wpAnyL_take 7 47 (.slice (some ⟨g, o, none⟩) gn gc) [] rfl rfl (by kernel_rfl) (by kernel_rfl) (by kernel_rfl) (by kernel_rfl) (by kernel_rfl) (fun _ _ _ h => h) (by rfl) (fun W hW => by obtain ⟨x0, x1, x2, x3⟩ := box4 hW.2; go_simp) hS ?_
    simp only [Act.put, List.setIfInBounds_toArray, List.set_cons_zero, List.set_cons_succ]
    refine wpAnyL_take 8 48 (.pointer (some ⟨g, o, none⟩)) [] rfl rfl (by kernel_rfl) (by kernel_rfl) (by kernel_rfl) (by kernel_rfl) (by kernel_rfl) (fun _ _ _ h => h) (by rfl) (fun u _ => by go_simp) hS ?_
    simp only [Act.put, List.setIfInBounds_toArray, List.set_cons_zero, List.set_cons_succ]
    refine wpAnyL_take 9 49 (.int .u32 (d0 : Int)) [] rfl rfl (by kernel_rfl) (by kernel_rfl) (by kernel_rfl) (by kernel_rfl) (by kernel_rfl) (fun _ _ _ h => h) (by rfl) (fun W hW => by have hx := unhide HD0 W hW; go_simp) hS ?_
    simp only [Act.put, List.setIfInBounds_toArray, List.set_cons_zero, List.set_cons_succ]
    refine wpAnyL_take 10 50 (.int .u64 (d0 : Int)) [] rfl rfl (by kernel_rfl) (by kernel_rfl) (by kernel_rfl) (by kernel_rfl) (by kernel_rfl) (fun _ _ _ h => h) (by rfl) (fun u _ => by go_simp) hS ?_
    simp only [Act.put, List.setIfInBounds_toArray, List.set_cons_zero, List.set_cons_succ]
    refine wpAnyL_one (i := 4) (by kernel_rfl) rfl (by rfl) fun K hK => ?_
    refine wp_call_fn 107 _ _ (by rfl) #[.int .u64 (kn : Int), .int .i64 2] (by with_unfolding_all rfl) entFx (some 44) (by rfl) _ (unhide HF1 _) ?_
    rintro _ V5 ⟨rfl, hb5⟩
    have hS5 := hS.below hb5
    refine hK _ _ (fun _ => hS5) ?_
    clear hK K hS hb5
    have hS := hS5
    clear hS5
    simp only [Act.put, List.setIfInBounds_toArray, List.set_cons_zero, List.set_cons_succ]
    refine wpAnyL_take 5 45 (.string ⟨P1.toArray⟩) [] rfl rfl (by kernel_rfl) (by kernel_rfl) (by kernel_rfl) (by kernel_rfl) (by kernel_rfl) (fun _ _ _ h => h) (by rfl) (fun u _ => by go_simp) hS ?_
    simp only [Act.put, List.setIfInBounds_toArray, List.set_cons_zero, List.set_cons_succ]
    refine wpAnyL_one (i := 11) (by kernel_rfl) rfl (by rfl) fun K hK => ?_
    refine wp_call_fn 107 _ _ (by rfl) #[.int .u64 (d0 : Int), .int .i64 4] (by with_unfolding_all rfl) entFx (some 51) (by rfl) _ (unhide HF2 _) ?_
    rintro _ V6 ⟨rfl, hb5⟩
    have hS5 := hS.below hb5
    refine hK _ _ (fun _ => hS5) ?_
    clear hK K hS hb5
    have hS := hS5
    clear hS5
    simp only [Act.put, List.setIfInBounds_toArray, List.set_cons_zero, List.set_cons_succ]
    refine wpAnyL_take 12 52 (.string ⟨(P1 ++ F2).toArray⟩) [] rfl rfl (by kernel_rfl) (by kernel_rfl) (by kernel_rfl) (by kernel_rfl) (by kernel_rfl) (fun _ _ _ h => h) (by rfl) (fun u _ => by go_simp) hS ?_
    simp only [Act.put, List.setIfInBounds_toArray, List.set_cons_zero, List.set_cons_succ]
    refine wpAnyL_one (i := 13) (by kernel_rfl) rfl (by rfl) fun K hK => ?_
    refine wp_val (.string ⟨(P1 ++ F2).toArray⟩) (by go_simp) (some 5) (by rfl) ?_
    have HS7 := hide hS
    refine hK _ _ (fun h => absurd rfl h) ?_
    clear hK K hS
    simp only [Act.put, List.setIfInBounds_toArray, List.set_cons_zero, List.set_cons_succ]
    refine wpAnyL_done (by kernel_rfl) ?_ _
    clear HK0 hcat0 hcat1 hix0 HD0 HF1 HF2 hw0 hw1
    go_wp2_with fail
    go_loopw [5, 6] (fun s i wr => ∃ k : Nat, k ≤ kn ∧ s = .string ⟨(P1 ++ F2 ++ keysB (ks.take k) gt).toArray⟩ ∧ i = .int .i64 k ∧ Hid (Kb u wr N (.cells #[.bool false, .slice ca cn cc, .slice ka kn kc, .slice (some ⟨g, o, none⟩) gn gc] 26 (0, 0)))) (fun _ i _ => kn - (intOf i).toNat)
    case atStart => exact ⟨0, Nat.zero_le _, by simp [keysB], rfl, unhide HS7⟩
    case round =>
      clear HS7
      obtain ⟨k, hk, rfl, rfl, HI⟩ := hrel
      obtain ⟨y0, y1, y2, y3⟩ := box4 (unhide HI).2
      by_cases hlt : k < kn
      · have hki : (k : Int) < (kn : Int) := by omega
        have hkl : k < ks.length := by rw [← unhide HKN]; exact hlt
        have hgl : k < gt.length := by rw [unhide HGT]; exact hlt
        obtain ⟨S, hS0⟩ : ∃ S, S = P1 ++ F2 ++ keysB (ks.take k) gt := ⟨_, rfl⟩
        have hSl : S.length ≤ 8000000 := by
          have := unhide HLEN k (by omega)
          rw [hS0, List.length_append, List.length_append, hlp, hl2]
          omega
        have HQ := hide (unhide HSM ks[k] (List.getElem_mem hkl))
        have hdl := unhide HKID k hgl
        have HTKk := hide (unhide HTK k hkl hgl)
        have hbw0 : Below u.heap.size u wr := by rw [← unhide HN]; exact (unhide HI).1
        obtain ⟨g1, o1, hao, _⟩ := ((unhide HK).below hbw0).ky hkl
        have HCL : Hid (∀ W : World, Kb u W N (.cells #[.bool false, .slice ca cn cc, .slice ka kn kc, .slice (some ⟨g, o, none⟩) gn gc] 26 (0, 0)) → W.cell? ⟨g1, o1 + k, none⟩ = some (.string ks[k]) ∧ W.cell? ⟨g, o + (k + 1), none⟩ = some (.int .u32 (gt[k] : Int))) := fun W hW => by
          obtain ⟨g', o', hao', c1⟩ := ((unhide HK).below (by rw [← unhide HN]; exact hW.1)).ky hkl
          rw [hao] at hao'
          cases hao'
          exact ⟨c1, unhide HGA W k hgl hW⟩
        subst hao
        have hix := ixStrs g1 o1 kn kc k hlt
        obtain ⟨k1, hk1⟩ : ∃ k1, k1 = k + 1 := ⟨_, rfl⟩
        have hix2 := ixKids g o gn gc k1 (by have := unhide HG2; omega)
        generalize hq0 : ks[k] = q at *
        generalize hd9 : gt[k] = d at *
        clear hq0 hd9 hbw0
        have hq3 : 1 ≤ q.size ∧ q.size ≤ 320 := unhide HQ
        obtain ⟨T1, hT1⟩ : ∃ T, T = textB q := ⟨_, rfl⟩
        obtain ⟨T2, hT2⟩ : ∃ T, T = W.fixB d 4 := ⟨_, rfl⟩
        have HT1 := hide (fun v : World => rText q v (by omega) T1 hT1)
        have HT2 := hide (fun v : World => rFixed d 4 v (by omega) (by omega) T2 hT2)
        have ht1 : T1.length ≤ 322 := by rw [hT1, textB_len (by omega)]; exact tsz_le (by omega)
        have ht2 : T2.length = 4 := by rw [hT2, W.fixB_length]
        have hcat1 := catL S T1 (by omega) (by omega)
        have hcat2 := catL (S ++ T1) T2 (by rw [List.length_append]; omega) (by omega)
        have hw1 := u64_same (k := d) (by omega)
        have HNX : Hid (P1 ++ F2 ++ keysB (ks.take (k + 1)) gt = S ++ T1 ++ T2) := by
          show _ = _
          rw [unhide HTKk, hS0, hT1, hT2]
          simp [keyB, List.append_assoc]
        rw [← hS0]
        rw [← hk1] at HCL
        obtain ⟨hw2, hw3⟩ := wrap_su (k := k) (k1 := k1) (by omega) hk1
        generalize o1 + k = j1 at *
        generalize o + k1 = j2 at *
        clear hS0 hT1 hT2 hSl HQ hq3 ht1 ht2 HTKk hkl hgl hdl hk1
        go_wp2_with fail
        clear y0 y1 y2 y3
        refine wp_region_last (fun W => Kb u W N (.cells #[.bool false, .slice ca cn cc, .slice (some ⟨g1, o1, none⟩) kn kc, .slice (some ⟨g, o, none⟩) gn gc] 26 (0, 0))) 17 hmix ((unhide HI).below (belowDrewN (Below.refl _ _) 1)) fun hS => ?_
        refine wpAnyL_take 0 60 (.string ⟨S.toArray⟩) [] rfl rfl (by kernel_rfl) (by kernel_rfl) (by kernel_rfl) (by kernel_rfl) (by kernel_rfl) (fun _ _ _ h => h) (by rfl) (fun u _ => by go_simp) hS ?_
        simp only [Act.put, List.setIfInBounds_toArray, List.set_cons_zero, List.set_cons_succ]
        refine wpAnyL_take 1 61 (.pointer (some ⟨N, 2, none⟩)) [] rfl rfl (by kernel_rfl) (by kernel_rfl) (by kernel_rfl) (by kernel_rfl) (by kernel_rfl) (fun _ _ _ h => h) (by rfl) (fun u _ => by go_simp) hS ?_
        simp only [Act.put, List.setIfInBounds_toArray, List.set_cons_zero, List.set_cons_succ]
        refine wpAnyL_take 2 62 (.slice (some ⟨g1, o1, none⟩) kn kc) [] rfl rfl (by kernel_rfl) (by kernel_rfl) (by kernel_rfl) (by kernel_rfl) (by kernel_rfl) (fun _ _ _ h => h) (by rfl) (fun W hW => by obtain ⟨x0, x1, x2, x3⟩ := box4 hW.2; go_simp) hS ?_
        simp only [Act.put, List.setIfInBounds_toArray, List.set_cons_zero, List.set_cons_succ]
        refine wpAnyL_take 3 63 (.int .i64 (k : Int)) [] rfl rfl (by kernel_rfl) (by kernel_rfl) (by kernel_rfl) (by kernel_rfl) (by kernel_rfl) (fun _ _ _ h => h) (by rfl) (fun u _ => by go_simp) hS ?_
        simp only [Act.put, List.setIfInBounds_toArray, List.set_cons_zero, List.set_cons_succ]
        refine wpAnyL_take 4 64 (.pointer (some ⟨g1, j1, none⟩)) [] rfl rfl (by kernel_rfl) (by kernel_rfl) (by kernel_rfl) (by kernel_rfl) (by kernel_rfl) (fun _ _ _ h => h) (by rfl) (fun u _ => by go_simp) hS ?_
        simp only [Act.put, List.setIfInBounds_toArray, List.set_cons_zero, List.set_cons_succ]
        refine wpAnyL_take 5 65 (.string q) [] rfl rfl (by kernel_rfl) (by kernel_rfl) (by kernel_rfl) (by kernel_rfl) (by kernel_rfl) (fun _ _ _ h => h) (by rfl) (fun W hW => by have hx := (unhide HCL W hW).1; go_simp) hS ?_
        simp only [Act.put, List.setIfInBounds_toArray, List.set_cons_zero, List.set_cons_succ]
        refine wpAnyL_take 8 68 (.pointer (some ⟨N, 3, none⟩)) [] rfl rfl (by kernel_rfl) (by kernel_rfl) (by kernel_rfl) (by kernel_rfl) (by kernel_rfl) (fun _ _ _ h => h) (by rfl) (fun u _ => by go_simp) hS ?_
        simp only [Act.put, List.setIfInBounds_toArray, List.set_cons_zero, List.set_cons_succ]
        refine wpAnyL_take 9 69 (.slice (some ⟨g, o, none⟩) gn gc) [] rfl rfl (by kernel_rfl) (by kernel_rfl) (by kernel_rfl) (by kernel_rfl) (by kernel_rfl) (fun _ _ _ h => h) (by rfl) (fun W hW => by obtain ⟨x0, x1, x2, x3⟩ := box4 hW.2; go_simp) hS ?_
        simp only [Act.put, List.setIfInBounds_toArray, List.set_cons_zero, List.set_cons_succ]
        refine wpAnyL_take 10 70 (.int .i64 (k : Int)) [] rfl rfl (by kernel_rfl) (by kernel_rfl) (by kernel_rfl) (by kernel_rfl) (by kernel_rfl) (fun _ _ _ h => h) (by rfl) (fun u _ => by go_simp) hS ?_
        simp only [Act.put, List.setIfInBounds_toArray, List.set_cons_zero, List.set_cons_succ]
        refine wpAnyL_take 11 71 (.int .i64 (k1 : Int)) [] rfl rfl (by kernel_rfl) (by kernel_rfl) (by kernel_rfl) (by kernel_rfl) (by kernel_rfl) (fun _ _ _ h => h) (by rfl) (fun u _ => by go_simp) hS ?_
        simp only [Act.put, List.setIfInBounds_toArray, List.set_cons_zero, List.set_cons_succ]
        refine wpAnyL_take 12 72 (.pointer (some ⟨g, j2, none⟩)) [] rfl rfl (by kernel_rfl) (by kernel_rfl) (by kernel_rfl) (by kernel_rfl) (by kernel_rfl) (fun _ _ _ h => h) (by rfl) (fun u _ => by go_simp) hS ?_
        simp only [Act.put, List.setIfInBounds_toArray, List.set_cons_zero, List.set_cons_succ]
        refine wpAnyL_take 13 73 (.int .u32 (d : Int)) [] rfl rfl (by kernel_rfl) (by kernel_rfl) (by kernel_rfl) (by kernel_rfl) (by kernel_rfl) (fun _ _ _ h => h) (by rfl) (fun W hW => by have hx := (unhide HCL W hW).2; go_simp) hS ?_
        simp only [Act.put, List.setIfInBounds_toArray, List.set_cons_zero, List.set_cons_succ]
        refine wpAnyL_take 14 74 (.int .u64 (d : Int)) [] rfl rfl (by kernel_rfl) (by kernel_rfl) (by kernel_rfl) (by kernel_rfl) (by kernel_rfl) (fun _ _ _ h => h) (by rfl) (fun u _ => by go_simp) hS ?_
        simp only [Act.put, List.setIfInBounds_toArray, List.set_cons_zero, List.set_cons_succ]
        refine wpAnyL_one (i := 6) (by kernel_rfl) rfl (by rfl) fun K hK => ?_
        refine wp_call_fn 108 _ _ (by rfl) #[.string q] (by with_unfolding_all rfl) entTx (some 66) (by rfl) _ (unhide HT1 _) ?_
        rintro _ V5 ⟨rfl, hb5⟩
        have hS5 := hS.below hb5
        refine hK _ _ (fun _ => hS5) ?_
        clear hK K hS hb5
        have hS := hS5
        clear hS5
        simp only [Act.put, List.setIfInBounds_toArray, List.set_cons_zero, List.set_cons_succ]
        refine wpAnyL_take 7 67 (.string ⟨(S ++ T1).toArray⟩) [] rfl rfl (by kernel_rfl) (by kernel_rfl) (by kernel_rfl) (by kernel_rfl) (by kernel_rfl) (fun _ _ _ h => h) (by rfl) (fun u _ => by go_simp) hS ?_
        simp only [Act.put, List.setIfInBounds_toArray, List.set_cons_zero, List.set_cons_succ]
        refine wpAnyL_one (i := 15) (by kernel_rfl) rfl (by rfl) fun K hK => ?_
        refine wp_call_fn 107 _ _ (by rfl) #[.int .u64 (d : Int), .int .i64 4] (by with_unfolding_all rfl) entFx (some 75) (by rfl) _ (unhide HT2 _) ?_
        rintro _ V6 ⟨rfl, hb5⟩
        have hS5 := hS.below hb5
        refine hK _ _ (fun _ => hS5) ?_
        clear hK K hS hb5
        have hS := hS5
        clear hS5
        simp only [Act.put, List.setIfInBounds_toArray, List.set_cons_zero, List.set_cons_succ]
        refine wpAnyL_take 16 76 (.string ⟨(S ++ T1 ++ T2).toArray⟩) [] rfl rfl (by kernel_rfl) (by kernel_rfl) (by kernel_rfl) (by kernel_rfl) (by kernel_rfl) (fun _ _ _ h => h) (by rfl) (fun u _ => by go_simp) hS ?_
        simp only [Act.put, List.setIfInBounds_toArray, List.set_cons_zero, List.set_cons_succ]
        refine wpAnyL_one (i := 17) (by kernel_rfl) rfl (by rfl) fun K hK => ?_
        refine wp_val (.string ⟨(S ++ T1 ++ T2).toArray⟩) (by go_simp) (some 5) (by rfl) ?_
        have HS7 := hide hS
        refine hK _ _ (fun h => absurd rfl h) ?_
        clear hK K hS
        simp only [Act.put, List.setIfInBounds_toArray, List.set_cons_zero, List.set_cons_succ]
        clear hw2 hw3 hix hix2
        refine wpAnyL_done (by kernel_rfl) ?_ _
        go_wp2
        go_roundw
        case rel => exact ⟨k + 1, by omega, by rw [unhide HNX], by go_num, unhide HS7⟩
        case measure => simp [intOf]; omega
      · obtain rfl : k = kn := by omega
        have hki : ¬ (k : Int) < (k : Int) := by omega
        rw [unhide HALL]
        go_wp2
        go_ret
        exact ⟨rfl, (unhide HI).1⟩
theorem rBody (n : Nd) (a : Nv) (u : World) (h : NdAt u n a) (hok : n.Ok) : Calls Try.prog 64 #[a.v n] u fun e u' => e = .returned (.string ⟨n.body.toArray⟩) ∧ Below u.heap.size u u' := by
  cases hlf : n.leaf
  · exact rBodyB n a u h hok hlf
  · exact rBodyL n a u h hok hlf
end Go.Proofs.Ytppmpomfihalfaa
