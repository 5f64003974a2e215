/- Nodes, the document's side: Take. -/
import Derived.Test.YtppmpomfihalfaaNsi
namespace Go.Proofs.Ytppmpomfihalfaa
open Go.RowKit

set_option maxRecDepth 100000 in
set_option maxHeartbeats 2000000 in
theorem rLeaf (ao : Option Addr) (n cp : Nat) (u : World) : Calls Try.prog 89 #[.slice ao n cp] u fun e u' => e = .returned (.agg #[.bool true, .slice ao n cp, .slice none 0 0, .slice none 0 0]) ∧ Below u.heap.size u u' := by
  obtain ⟨N, hN⟩ : ∃ N, N = u.heap.size := ⟨_, rfl⟩
  have HN := hide hN
  rw [← hN]
  clear hN
  go_enter Try.func89, Try.ntmps89
  go_wp2_with (first
    | ((with_reducible refine wpList_alloc_node (by rfl) (by rfl) (some 2) (by rfl) N (unhide HN) ?_); intro W1 HX1 HB1 HS1; simp only [Act.put, List.setIfInBounds_toArray, List.set_cons_zero, List.set_cons_succ])
    | ((with_reducible refine wpList_store_node (by rfl) (.tmp 2) (.tmp 4) (by rfl) N true ao n cp none 0 0 none 0 0 (by with_unfolding_all rfl) (by with_unfolding_all rfl) (unhide HX1) ?_); intro W2 HX2 HE2; simp only [Act.put])
    | fail)
  have HB2 : Hid (Below N u W2) := by rw [unhide HE2]; exact belowRow (unhide HB1) (Nat.le_refl _) _
  go_wp2
  refine bodyPost_ret (results_cell rfl _ _ N 26 #[.bool true, .slice ao n cp, .slice none 0 0, .slice none 0 0] (0, 0) _ rfl (unhide HX2) nodeUnd rfl nodeInfo) rfl ?_
  exact ⟨rfl, unhide HB2⟩
/-- a list of cells that grows, over what lay there -/
structure Gr (W0 w : World) (L : List Cl) (v : Value) : Prop where
  bel : Below W0.heap.size W0 w
  own : w.ownsRow W0.heap.size 66 2 v L.length (flatC L)
theorem Gr.start (W0 : World) : Gr W0 W0 [] (.slice none 0 0) := ⟨Below.refl _ _, World.ownsRow_nil _ _ _ _⟩
theorem Gr.put {W0 w w2 : World} {L : List Cl} {v v' : Value} {o : Obj} {q p : ByteArray} (h : Gr W0 w L v) (hg : (w.alloc o).grownBy w2 v.ownBlock) (ho : w2.ownsRow W0.heap.size 66 2 v' (L.length + 1) (flatC L ++ [.string q, .string p])) : Gr W0 w2 (L ++ [⟨q, p⟩]) v' := by
  refine ⟨h.bel.trans (((Below.refl _ _).alloc h.bel.size o).grown hg (by have := h.bel.size; simp; omega) (fun k hk => (h.own.lt k hk).1)), ?_⟩
  rw [List.length_append, flatC_app]
  exact ho
theorem Gr.box {W0 w : World} {L : List Cl} {v : Value} (h : Gr W0 w L v) {M : Nat} {o : Obj} (hM : W0.heap[M]? = some o) : w.heap[M]? = some o := box_below hM h.bel
theorem Gr.below {W0 w w' : World} {L : List Cl} {v : Value} (h : Gr W0 w L v) (hb : Below w.heap.size w w') : Gr W0 w' L v :=
  ⟨h.bel.trans (hb.mono h.bel.size), own_keep h.own (fun g hg => hb.block g (h.own.lt g hg).2)⟩
def zeroNd : Nd := ⟨false, [], [], []⟩
theorem zeroNd_v : (Nv.mk none 0 none 0 none 0).v zeroNd = zeroV := rfl
/-- what is left behind j rounds of Take -/
def tkL (cs : List Cl) (p j : Nat) : List Cl := if j ≤ p then cs.take j else cs.take p ++ (cs.take j).drop (p + 1)
theorem tkL_step {cs : List Cl} {p j : Nat} (hj : j < cs.length) (hp : j ≠ p) : tkL cs p (j + 1) = tkL cs p j ++ [cs[j]] := by
  unfold tkL
  have ht : cs.take (j + 1) = cs.take j ++ [cs[j]] := List.take_succ_eq_append_getElem hj
  rcases Nat.lt_or_ge j p with h1 | h1
  · rw [if_pos (by omega), if_pos (by omega), ht]
  · rw [if_neg (by omega), if_neg (by omega), ht, List.drop_append_of_le_length (by rw [List.length_take]; omega), List.append_assoc]
theorem tkL_same {cs : List Cl} {p : Nat} (hp : p < cs.length) : tkL cs p (p + 1) = tkL cs p p := by
  unfold tkL
  rw [if_neg (by omega), if_pos (Nat.le_refl _), List.drop_of_length_le (by rw [List.length_take]; omega), List.append_nil]
theorem tkL_end {cs : List Cl} {p : Nat} (hp : p < cs.length) : tkL cs p cs.length = cs.take p ++ cs.drop (p + 1) := by
  unfold tkL
  rw [if_neg (by omega), List.take_length]
theorem tkL_len (cs : List Cl) (p j : Nat) : (tkL cs p j).length ≤ cs.length := by
  unfold tkL
  split
  · rw [List.length_take]; omega
  · rw [List.length_append, List.length_take, List.length_drop, List.length_take]; omega
noncomputable def Nd.tkB (n : Nd) (key : ByteArray) : Bool := (n.fat key).2
noncomputable def Nd.tkR (n : Nd) (key : ByteArray) : Nd := if n.tkB key = true then n.take key else zeroNd
theorem Nd.tkB_true {n : Nd} {key : ByteArray} (h : n.tkB key = true) : n.refused true = 0 ∧ n.found key = true := by
  unfold Nd.tkB Nd.fat at h
  split at h
  · exact ⟨‹_›, h⟩
  · cases h
theorem Nd.tkB_false {n : Nd} {key : ByteArray} (h : n.tkB key = false) : ¬ (n.refused true = 0 ∧ n.found key = true) := by
  intro ⟨h1, h2⟩
  unfold Nd.tkB Nd.fat at h
  rw [if_pos h1] at h
  rw [h2] at h
  cases h
set_option maxRecDepth 100000 in
set_option maxHeartbeats 4000000 in
theorem rTakeO (n : Nd) (a : Nv) (key : ByteArray) (u : World) (h : NdAt u n a) (hf : n.Few) : Calls Try.prog 42 #[a.v n, .string key] u fun e u' => ∃ y : Nv, e = .returned (.tuple #[y.v (n.tkR key), .bool (n.tkB key)]) ∧ Ow u' u.heap.size (n.tkR key).cells (n.tkR key).keys (n.tkR key).kids y ∧ Below u.heap.size u u' := by
  have H1 := hide (fun (v : World) (hv : Below u.heap.size u v) => rFindF n a key v (h.below hv) hf)
  have HC : Hid (Lies u a.ca (flatC n.cells)) := h.cells
  have hln : (n.cells.length : Int) ≤ 4398046510976 := by have := hf.1; omega
  have HFB : Hid ((n.fat key).2 = n.tkB key) := rfl
  rw [unhide HFB] at H1
  obtain ⟨N, hN⟩ : ∃ N, N = u.heap.size := ⟨_, rfl⟩
  have HN := hide hN
  rw [← hN] at H1 ⊢
  clear hN
  rw [Nv.v_eq] at H1 ⊢
  obtain ⟨ca, cc, ka, kc, ga, gc⟩ := a
  have HC : Hid (Lies u ca (flatC n.cells)) := unhide HC
  generalize (n.fat key).1 = X at *
  cases hb : n.tkB key
  · have hr : n.tkR key = zeroNd := by unfold Nd.tkR; rw [hb]; rfl
    rw [hr]
    rw [hb] at H1
    clear h hf hr hb HC HFB
    generalize n.cells.length = cn at *
    generalize n.keys.length = kn at *
    generalize n.kids.length = gn at *
    generalize n.leaf = lf at *
    go_enter Try.func42, Try.ntmps42
    go_wp2_with (first
      | ((with_reducible refine wpList_box_node (by rfl) (.tmp 0) (by rfl) (some 2) (by rfl) N (unhide HN) lf ca cn cc ka kn kc ga gn gc (by with_unfolding_all rfl) ?_); intro W0 HX0 HB0 HS0; simp only [Act.put, List.setIfInBounds_toArray, List.set_cons_zero, List.set_cons_succ])
      | ((with_reducible refine wpList_alloc_node (by rfl) (by rfl) (some 4) (by rfl) (N + 1) (unhide HS0).symm ?_); intro W1 HX1 HB1 HS1; simp only [Act.put, List.setIfInBounds_toArray, List.set_cons_zero, List.set_cons_succ]; obtain ⟨y0, y1, y2, y3⟩ := box4 (((unhide HB1).block N (Nat.lt_succ_self _)).trans (unhide HX0)))
      | fail)
    have HBL : Hid (Below N u W1) := (unhide HB0).trans ((unhide HB1).mono (Nat.le_succ _))
    refine (unhide H1 _ (unhide HBL)).mono ?_
    rintro e W2 ⟨rfl, hb2⟩
    have HX2 := hide (box_below (unhide HX1) hb2)
    have HBL2 : Hid (Below N u W2) := (unhide HBL).trans (hb2.mono (by rw [unhide HS1]; omega))
    clear hb2 y0 y1 y2 y3 HX0 HB0 HS0 HB1 HS1 HX1 HBL
    go_wp2_with (first
      | ((with_reducible refine wpList_store_node (by rfl) (.tmp 4) (.tmp 18) (by rfl) (N + 1) false none 0 0 none 0 0 none 0 0 (by with_unfolding_all rfl) (by with_unfolding_all rfl) (unhide HX2) ?_); intro W3 HX3 HE3; simp only [Act.put])
      | fail)
    have HB3 : Hid (Below N u W3) := by rw [unhide HE3]; exact belowRow (unhide HBL2) (Nat.le_succ N) _
    go_wp2
    refine bodyPost_ret (results_cell_tmp rfl _ _ (N + 1) 26 #[.bool false, .slice none 0 0, .slice none 0 0, .slice none 0 0] (0, 0) _ rfl (unhide HX3) nodeUnd rfl nodeInfo) rfl ?_
    exact ⟨⟨none, 0, none, 0, none, 0⟩, rfl, zero_ow _ _, unhide HB3⟩
  · have hr : n.tkR key = n.take key := by unfold Nd.tkR; rw [hb]; rfl
    rw [hr]
    rw [hb] at H1
    obtain ⟨hrf, hfd⟩ := Nd.tkB_true hb
    have hz := Nd.refused_zero.1 hrf
    obtain ⟨hp, hpk⟩ := Nd.found_lt hfd
    clear hpk
    have HFA := hide (fun (j : Nat) (hj : j < n.cells.length) => find_at (key := key) hz.1.up.1 hj (n.found key) rfl)
    rw [hfd] at HFA
    have HEND : Hid (n.take key = ⟨true, tkL n.cells (plc n.cells key) n.cells.length, [], []⟩) := by show _ = _; rw [tkL_end hp]; rfl
    have HST := hide (fun (j : Nat) (hj : j < n.cells.length) (hx : j ≠ plc n.cells key) => tkL_step hj hx)
    have HSA := hide (tkL_same hp)
    have HLL := hide (fun j : Nat => tkL_len n.cells (plc n.cells key) j)
    rw [unhide HEND]
    generalize plc n.cells key = p at *
    clear h hf hr hb HFB hrf hfd hz HEND
    obtain ⟨i0, hi0⟩ := cell_parts
    have HI0 := hide hi0
    clear hi0
    obtain ⟨lf, cs, ks, gs⟩ := n
    have HC : Hid (Lies u ca (flatC cs)) := unhide HC
    have HFA : Hid (∀ (j : Nat) (hj : j < cs.length), (cs[j].key.toList == key.toList) = (decide (j = p) && true)) := unhide HFA
    have HST : Hid (∀ (j : Nat) (hj : j < cs.length), j ≠ p → tkL cs p (j + 1) = tkL cs p j ++ [cs[j]]) := unhide HST
    have HLL : Hid (∀ j : Nat, (tkL cs p j).length ≤ cs.length) := unhide HLL
    have HSA : Hid (tkL cs p (p + 1) = tkL cs p p) := unhide HSA
    have hln : (cs.length : Int) ≤ 4398046510976 := hln
    show Calls Try.prog 42 #[.agg #[.bool lf, .slice ca cs.length cc, .slice ka ks.length kc, .slice ga gs.length gc], .string key] u fun e u' => ∃ y : Nv, e = .returned (.tuple #[y.v ⟨true, tkL cs p cs.length, [], []⟩, .bool true]) ∧ Ow u' N (tkL cs p cs.length) [] [] y ∧ Below N u u'
    have H1 : Hid (∀ (v : World), Below N u v → Calls Try.prog 29 #[.agg #[.bool lf, .slice ca cs.length cc, .slice ka ks.length kc, .slice ga gs.length gc], .string key] v fun e u' => e = .returned (.tuple #[.int .i64 X, .bool true]) ∧ Below v.heap.size v u') := unhide H1
    obtain ⟨cn, hcn⟩ : ∃ cn, cn = cs.length := ⟨_, rfl⟩
    have HCN := hide hcn
    rw [← hcn] at H1 hln HLL ⊢
    clear hcn hp
    generalize ks.length = kn at *
    generalize gs.length = gn at *
    go_enter Try.func42, Try.ntmps42
    go_wp2_with (first
      | ((with_reducible refine wpList_box_node (by rfl) (.tmp 0) (by rfl) (some 2) (by rfl) N (unhide HN) lf ca cn cc ka kn kc ga gn gc (by with_unfolding_all rfl) ?_); intro W0 HX0 HB0 HS0; simp only [Act.put, List.setIfInBounds_toArray, List.set_cons_zero, List.set_cons_succ])
      | ((with_reducible refine wpList_alloc_node (by rfl) (by rfl) (some 4) (by rfl) (N + 1) (unhide HS0).symm ?_); intro W1 HX1 HB1 HS1; simp only [Act.put, List.setIfInBounds_toArray, List.set_cons_zero, List.set_cons_succ]; have HX1b := hide (((unhide HB1).block N (Nat.lt_succ_self _)).trans (unhide HX0)); obtain ⟨y0, y1, y2, y3⟩ := box4 (unhide HX1b))
      | fail)
    have HBL : Hid (Below N u W1) := (unhide HB0).trans ((unhide HB1).mono (Nat.le_succ _))
    refine (unhide H1 _ (unhide HBL)).mono ?_
    rintro e W2 ⟨rfl, hb2⟩
    have HX2 := hide (box_below (unhide HX1) hb2)
    have HX2b := hide (box_below (unhide HX1b) hb2)
    have HBL2 : Hid (Below N u W2) := (unhide HBL).trans (hb2.mono (by rw [unhide HS1]; omega))
    clear hb2 y0 y1 y2 y3 HX0 HB0 HS0 HB1 HS1 HX1 HX1b HBL
    have HZ2 : Hid (N + 2 ≤ W2.heap.size) := (Array.getElem?_eq_some_iff.1 (unhide HX2)).1
    go_wp2_with fail
    go_loopw [8, 9] (fun v i wr => ∃ (j : Nat) (ao : Option Addr) (cp : Nat), j ≤ cn ∧ v = .slice ao (tkL cs p j).length cp ∧ i = .int .i64 j ∧ Hid (Gr W2 wr (tkL cs p j) (.slice ao (tkL cs p j).length cp))) (fun _ i _ => cn - (intOf i).toNat)
    case atStart => exact ⟨0, none, 0, Nat.zero_le _, by simp [tkL], rfl, by show Gr _ _ _ _; rw [show tkL cs p 0 = [] by simp [tkL]]; exact Gr.start W2⟩
    case round =>
      obtain ⟨j, ao, cp, hj, rfl, rfl, HI⟩ := hrel
      obtain ⟨y0, y1, y2, y3⟩ := box4 ((unhide HI).box (unhide HX2b))
      by_cases hlt : j < cn
      · have hji : (j : Int) < (cn : Int) := by omega
        have hjl : j < cs.length := by rw [← unhide HCN]; exact hlt
        have hbw : Below u.heap.size u wr := by rw [← unhide HN]; exact (unhide HBL2).trans ((unhide HI).bel.mono (by have := unhide HZ2; omega))
        obtain ⟨g, o, hao, hc, hv⟩ := ((unhide HC).below hbw).cl hjl
        subst hao
        have hix := ixCells g o cn cc j hlt
        have heq := unhide HFA j hjl
        have HSTj := hide (unhide HST j hjl)
        have hlen := unhide HLL j
        generalize hck : cs[j] = c at *
        obtain ⟨q, w⟩ := c
        replace hc : wr.cell? ⟨g, o + j * 2, none⟩ = some (.string q) := hc
        replace hv : wr.cell? ⟨g, o + j * 2 + 1, none⟩ = some (.string w) := hv
        replace heq : (q.toList == key.toList) = (decide (j = p) && true) := heq
        clear hck hjl hbw
        generalize o + j * 2 = j2 at *
        by_cases hjp : j = p
        · have h2 : (q.toList == key.toList) = true := by rw [heq, decide_eq_true hjp]; rfl
          clear heq
          have HEQ : Hid (tkL cs p (j + 1) = tkL cs p j) := by rw [hjp]; exact unhide HSA
          clear hjp HSTj
          go_wp2
          go_roundw
          case rel => exact ⟨j + 1, ao, cp, by omega, by rw [unhide HEQ], by go_num, by rw [unhide HEQ]; exact unhide HI⟩
          case measure => simp [intOf]; omega
        · have h2 : (q.toList == key.toList) = false := by rw [heq, decide_eq_false hjp]; rfl
          clear heq
          have HEQ := hide (unhide HSTj hjp)
          clear hjp HSTj
          obtain ⟨ln, hl⟩ : ∃ ln, ln = (tkL cs p j).length := ⟨_, rfl⟩
          have HO := hide (unhide HI).own
          rw [← hl] at HO hlen ⊢
          have HL := hide hl
          clear hl
          go_wp2_with (first
            | (at_builtin; refine W.wpList_put _ rfl (.tmp 34) (.tmp 40) 22 rfl W2.heap.size 66 i0 (.agg #[.string ⟨#[]⟩, .string ⟨#[]⟩]) 2 32 undC (unhide HI0).1 (unhide HI0).2.1 (unhide HI0).2.2.1 (unhide HI0).2.2.2 rfl (by decide) (.slice ao ln cp) ln (flatC (tkL cs p j)) rfl ((unhide HO).alloc _) ⟨_, 0, none⟩ 1 1 [.string q, .string w] rfl rfl (two_new _ _ _ _) (by simp [Value.oneCell']) (by simp only [maxLen]; omega) (by omega) (by have := (unhide HI).bel.size; simp; omega) ?_; intro v' w10 hown' hgrow hnew; clear hnew; obtain ⟨ao2, cp2, rfl⟩ := W.owns_shape hown'; rw [unhide HL] at hgrow hown'; have HI7 := hide ((unhide HI).put hgrow hown'); rw [← unhide HEQ, ← unhide HL] at HI7; clear hown' hgrow)
            | fail)
          have HLE : Hid (ln + 1 = (tkL cs p (j + 1)).length) := by show _ = _; rw [unhide HEQ, List.length_append, ← unhide HL]; rfl
          clear y0 y1 y2 y3 HO
          go_wp2
          go_roundw
          case rel => exact ⟨j + 1, ao2, cp2, by omega, by rw [← unhide HLE], by go_num, by rw [← unhide HLE]; exact unhide HI7⟩
          case measure => simp [intOf]; omega
      · obtain rfl : j = cn := by omega
        have hji : ¬ (j : Int) < (j : Int) := by omega
        have HLF := hide (rLeaf ao (tkL cs p j).length cp wr)
        have HFIN : Hid (∀ y : Nv, y.v ⟨true, tkL cs p j, [], []⟩ = .agg #[.bool true, .slice y.ca (tkL cs p j).length y.cc, .slice y.ka 0 y.kc, .slice y.ga 0 y.gc]) := fun y => rfl
        obtain ⟨ln, hl⟩ : ∃ ln, ln = (tkL cs p j).length := ⟨_, rfl⟩
        rw [← hl] at HLF HFIN ⊢
        have HL := hide hl
        clear hl
        go_wp2_with fail
        refine (unhide HLF).mono ?_
        rintro e W3 ⟨rfl, hb3⟩
        have HI3 := hide ((unhide HI).below hb3)
        clear hb3
        go_wp2_with (first
          | ((with_reducible refine wpList_store_node (by rfl) (.tmp 4) (.tmp 43) (by rfl) (N + 1) true ao ln cp none 0 0 none 0 0 (by with_unfolding_all rfl) (by with_unfolding_all rfl) ((unhide HI3).box (unhide HX2)) ?_); intro W4 HX4 HE4; simp only [Act.put])
          | fail)
        have HZ : Hid (Below N u W4 ∧ Ow W4 N (tkL cs p j) [] [] ⟨ao, cp, none, 0, none, 0⟩) := by
          rw [unhide HE4]
          have hz := unhide HZ2
          have ho := (unhide HI3).own
          refine ⟨belowRow ((unhide HBL2).trans ((unhide HI3).bel.mono (by omega))) (Nat.le_succ N) _, ?_, World.ownsRow_nil _ _ _ _, World.ownsRow_nil _ _ _ _⟩
          rw [← unhide HL] at ho ⊢
          exact own_down (own_row ho (by omega) _) (by omega)
        go_wp2
        refine bodyPost_ret (results_cell_tmp rfl _ _ (N + 1) 26 #[.bool true, .slice ao ln cp, .slice none 0 0, .slice none 0 0] (0, 0) _ rfl (unhide HX4) nodeUnd rfl nodeInfo) rfl ?_
        exact ⟨⟨ao, cp, none, 0, none, 0⟩, by rw [unhide HFIN]; rfl, (unhide HZ).2, (unhide HZ).1⟩
end Go.Proofs.Ytppmpomfihalfaa
