/- Nodes, the document's side: Put (written by mknsk.py). -/
import Derived.Test.YtppmpomfihalfaaNsj
import Derived.Test.YtppmpomfihalfaaNy
namespace Go.Proofs.Ytppmpomfihalfaa
open Go.RowKit

noncomputable def Nd.ptE (n : Nd) (key val : ByteArray) : Int := if n.refused true ≠ 0 then n.refused true else if key.size = 0 then 1 else (n.put key val).check
open Classical in
noncomputable def Nd.ptR (n : Nd) (key val : ByteArray) : Nd := if n.refused true = 0 ∧ key.size ≠ 0 ∧ (n.put key val).check = 0 then n.put key val else zeroNd
theorem put_up {n : Nd} (h : n.refused true = 0) (key val : ByteArray) : (n.put key val).Kind ∧ (n.put key val).Up := by
  have hz := Nd.refused_zero.1 h
  refine ⟨?_, ?_⟩
  · unfold Nd.Kind
    rw [if_pos (by rfl)]
    exact ⟨rfl, rfl⟩
  · exact ⟨((Lf.of hz.1 hz.2).put_ord key val).up, rises_nil⟩
theorem put_small {n : Nd} (h : n.refused true = 0) (key val : ByteArray) : (n.put key val).Small ↔ Cl.Ok ⟨key, val⟩ := by
  have hz := Nd.refused_zero.1 h
  constructor
  · intro hs
    exact hs.1 ⟨key, val⟩ (List.mem_append_right _ (List.mem_cons_self ..))
  · intro hc
    refine ⟨fun c hx => ?_, fun k hk => by cases hk⟩
    rcases List.mem_append.1 hx with hx | hx
    · exact hz.1.small.1 c (List.mem_of_mem_take hx)
    · rcases List.mem_cons.1 hx with rfl | hx
      · exact hc
      · exact hz.1.small.1 c (List.mem_of_mem_drop hx)
theorem put_check_no {n : Nd} (h : n.refused true = 0) {key val : ByteArray} (hc : ¬ Cl.Ok ⟨key, val⟩) : (n.put key val).check = 82 := by
  unfold Nd.check
  rw [if_neg (fun hx => hx (put_up h key val).1), if_pos (fun hx => hc ((put_small h key val).1 hx))]
theorem put_check_big {n : Nd} (h : n.refused true = 0) {key val : ByteArray} (hc : Cl.Ok ⟨key, val⟩) (hs : 1992 < (n.put key val).size) : (n.put key val).check = 82 := by
  unfold Nd.check
  rw [if_neg (fun hx => hx (put_up h key val).1), if_neg (fun hx => hx ((put_small h key val).2 hc)), if_neg (fun hx => hx (put_up h key val).2), if_pos hs]
theorem put_check_ok {n : Nd} (h : n.refused true = 0) {key val : ByteArray} (hc : Cl.Ok ⟨key, val⟩) (hs : ¬ 1992 < (n.put key val).size) : (n.put key val).check = 0 := by
  unfold Nd.check
  rw [if_neg (fun hx => hx (put_up h key val).1), if_neg (fun hx => hx ((put_small h key val).2 hc)), if_neg (fun hx => hx (put_up h key val).2), if_neg hs]
/-- what there is behind j rounds of Put -/
def ptL (cs : List Cl) (p T : Nat) (x : Cl) (j : Nat) : List Cl := if j ≤ p then cs.take j else cs.take p ++ (x :: (cs.take j).drop T)
theorem ptL_lt {cs : List Cl} {p T j : Nat} {x : Cl} (hj : j < cs.length) (hp : j < p) : ptL cs p T x (j + 1) = ptL cs p T x j ++ [cs[j]] := by
  unfold ptL
  rw [if_pos (by omega), if_pos (by omega), List.take_succ_eq_append_getElem hj]
theorem ptL_gt {cs : List Cl} {p T j : Nat} {x : Cl} (hj : j < cs.length) (hp : p < j) (hT : T ≤ p + 1) : ptL cs p T x (j + 1) = ptL cs p T x j ++ [cs[j]] := by
  unfold ptL
  rw [if_neg (by omega), if_neg (by omega), List.take_succ_eq_append_getElem hj, List.drop_append_of_le_length (by rw [List.length_take]; omega)]
  simp
theorem ptL_at {cs : List Cl} {p : Nat} {x : Cl} (hj : p < cs.length) : ptL cs p (p + 1) x (p + 1) = ptL cs p (p + 1) x p ++ [x] := by
  unfold ptL
  rw [if_neg (by omega), if_pos (Nat.le_refl _), List.drop_of_length_le (by rw [List.length_take]; omega)]
theorem ptL_at2 {cs : List Cl} {p : Nat} {x : Cl} (hj : p < cs.length) : ptL cs p p x (p + 1) = ptL cs p p x p ++ [x] ++ [cs[p]] := by
  unfold ptL
  rw [if_neg (by omega), if_pos (Nat.le_refl _), List.take_succ_eq_append_getElem hj, List.drop_append_of_le_length (by rw [List.length_take]; omega), List.drop_of_length_le (by rw [List.length_take]; omega)]
  simp
theorem ptL_end {cs : List Cl} {p T : Nat} {x : Cl} (hp : p < cs.length) : ptL cs p T x cs.length = cs.take p ++ (x :: cs.drop T) := by
  unfold ptL
  rw [if_neg (by omega), List.take_length]
theorem ptL_end2 {cs : List Cl} {p T : Nat} {x : Cl} (hp : p = cs.length) (hT : p ≤ T) : ptL cs p T x cs.length ++ [x] = cs.take p ++ (x :: cs.drop T) := by
  unfold ptL
  rw [if_pos (by omega), List.drop_of_length_le (by omega), ← hp]
theorem ptL_len (cs : List Cl) (p T j : Nat) (x : Cl) : (ptL cs p T x j).length ≤ cs.length + 1 + cs.length := by
  unfold ptL
  split
  · rw [List.length_take]; omega
  · rw [List.length_append, List.length_take, List.length_cons, List.length_drop, List.length_take]; omega
open Classical in
set_option maxRecDepth 100000 in
set_option maxHeartbeats 8000000 in
theorem rPutO (n : Nd) (a : Nv) (key val : ByteArray) (hks : key.size ≤ 140737488355328) (hvs : val.size ≤ 140737488355328) (u : World) (h : NdAt u n a) (hf : n.Few) : Calls Try.prog 37 #[a.v n, .string key, .string val] u fun e u' => ∃ y : Nv, e = .returned (.tuple #[y.v (n.ptR key val), .int .i64 (n.ptE key val)]) ∧ Ow u' u.heap.size (n.ptR key val).cells (n.ptR key val).keys (n.ptR key val).kids y ∧ Below u.heap.size u u' := by
  have H1 := hide (fun (v : World) (hv : Below u.heap.size u v) => rCheck n a v (h.below hv) hf.sum)
  have HC : Hid (Lies u a.ca (flatC n.cells)) := h.cells
  have hln : (n.cells.length : Int) ≤ 4398046510976 := by have := hf.1; omega
  have HSTR := hide h.str
  obtain ⟨N, hN⟩ : ∃ N, N = u.heap.size := ⟨_, rfl⟩
  have HN := hide hN
  rw [← hN] at H1 ⊢
  clear hN h hf
  rw [Nv.v_eq] at H1 ⊢
  obtain ⟨ca, cc, ka, kc, ga, gc⟩ := a
  have HC : Hid (Lies u ca (flatC n.cells)) := unhide HC
  by_cases hr : n.refused true = 0
  · replace hln : (n.cells.length : Int) ≤ 1992 := by have := (Nd.refused_zero.1 hr).1.lens.1; omega
    have hz := Nd.refused_zero.1 hr
    have hch := Nd.check_zero.2 hz.1
    have hlf : n.leaf = true := hz.2
    rw [hch, hlf] at H1
    rw [hlf]
    by_cases hk0 : key.size = 0
    · have hE : n.ptE key val = 1 := by unfold Nd.ptE; rw [if_neg (fun hx => hx hr), if_pos hk0]
      have hR : n.ptR key val = zeroNd := by unfold Nd.ptR; rw [if_neg (fun hx => hx.2.1 hk0)]
      rw [hE, hR]
      have hkb : (key.toList == []) = true := by simp [empty_list, hk0]
      clear hE hR hr hz hch hlf HC HSTR hln
      generalize n.cells.length = cn at *
      generalize n.keys.length = kn at *
      generalize n.kids.length = gn at *
      go_enter Try.func37, Try.ntmps37
      go_wp2_with (first
        | ((with_reducible refine wpList_box_node (by rfl) (.tmp 0) (by rfl) (some 3) (by rfl) N (unhide HN) true ca cn cc ka kn kc ga gn gc (by with_unfolding_all rfl) ?_); intro W0 HX0 HB0 HS0; simp only [Act.put, List.setIfInBounds_toArray, List.set_cons_zero, List.set_cons_succ])
        | ((with_reducible refine wpList_alloc_node (by rfl) (by rfl) (some 6) (by rfl) (N + 1) (unhide HS0).symm ?_); intro W1 HX1 HB1 HS1; simp only [Act.put, List.setIfInBounds_toArray, List.set_cons_zero, List.set_cons_succ]; have HX1b := hide (((unhide HB1).block N (Nat.lt_succ_self _)).trans (unhide HX0)); obtain ⟨y0, y1, y2, y3⟩ := box4 (unhide HX1b))
        | fail)
      have HBL : Hid (Below N u W1) := (unhide HB0).trans ((unhide HB1).mono (Nat.le_succ _))
      refine (unhide H1 _ (unhide HBL)).mono ?_
      rintro e W2 ⟨rfl, hb2⟩
      have HX2 := hide (box_below (unhide HX1) hb2)
      have HX2b := hide (box_below (unhide HX1b) hb2)
      have HBL2 : Hid (Below N u W2) := (unhide HBL).trans (hb2.mono (by rw [unhide HS1]; omega))
      clear hb2 y0 y1 y2 y3 HX0 HB0 HS0 HB1 HS1 HX1 HX1b HBL
      obtain ⟨y0, y1, y2, y3⟩ := box4 (unhide HX2b)
      go_wp2_with (first
        | ((with_reducible refine wpList_store_node (by rfl) (.tmp 6) (.tmp 25) (by rfl) (N + 1) false none 0 0 none 0 0 none 0 0 (by with_unfolding_all rfl) (by with_unfolding_all rfl) (unhide HX2) ?_); intro W3 HX3 HE3; simp only [Act.put])
        | fail)
      have HB3 : Hid (Below N u W3) := by rw [unhide HE3]; exact belowRow (unhide HBL2) (Nat.le_succ N) _
      go_wp2
      refine bodyPost_ret (results_cell_tmp rfl _ _ (N + 1) 26 #[.bool false, .slice none 0 0, .slice none 0 0, .slice none 0 0] (0, 0) _ rfl (unhide HX3) nodeUnd rfl nodeInfo) rfl ?_
      exact ⟨⟨none, 0, none, 0, none, 0⟩, rfl, zero_ow _ _, unhide HB3⟩
    · have hkb : (key.toList == []) = false := by simp [empty_list, hk0]
      have HCM := hide (fun v : World => rCellMay key val (by omega) (by omega) v)
      have HIN := hide (fun (hc : ¬ Cl.Ok ⟨key, val⟩) => put_check_no (key := key) (val := val) hr hc)
      by_cases hcm : Cl.Ok ⟨key, val⟩
      · rw [decide_eq_true hcm] at HCM
        have HBIG : Hid (1992 < (n.put key val).size → n.ptE key val = 82 ∧ n.ptR key val = zeroNd) := fun hs => by
          have h1 := put_check_big hr hcm hs
          refine ⟨by unfold Nd.ptE; rw [if_neg (fun hx => hx hr), if_neg hk0, h1], by unfold Nd.ptR; rw [if_neg (fun hx => by rw [h1] at hx; exact absurd hx.2.2 (by decide))]⟩
        have HSML : Hid (¬ 1992 < (n.put key val).size → n.ptE key val = 0 ∧ n.ptR key val = n.put key val) := fun hs => by
          have h1 := put_check_ok hr hcm hs
          refine ⟨by unfold Nd.ptE; rw [if_neg (fun hx => hx hr), if_neg hk0, h1], by unfold Nd.ptR; rw [if_pos ⟨hr, hk0, h1⟩]⟩
        have HSMA := hide ((put_small hr key val).2 hcm)
        have HFINE : Hid ((n.put key val).Fine) := by
          have hl := hz.1.lens.1
          have ht := n.to_le key
          refine ⟨⟨?_, Nat.zero_le _, Nat.zero_le _⟩, fun k hk => (by cases hk), fun c hc => ?_⟩
          · simp only [Nd.put, List.length_append, List.length_take, List.length_cons, List.length_drop]
            omega
          · rcases List.mem_append.1 hc with hc | hc
            · exact unhide HSTR c (List.mem_of_mem_take hc)
            · rcases List.mem_cons.1 hc with rfl | hc
              · exact ⟨by show key.size ≤ _; omega, by show val.size ≤ _; omega⟩
              · exact unhide HSTR c (List.mem_of_mem_drop hc)
        have HMK : Hid ((n.put key val).keys = [] ∧ (n.put key val).kids = []) := ⟨rfl, rfl⟩
        have HMV : Hid (∀ y : Nv, y.v (n.put key val) = .agg #[.bool true, .slice y.ca (n.put key val).cells.length y.cc, .slice y.ka 0 y.kc, .slice y.ga 0 y.gc]) := fun y => rfl
        have HFA := hide (fun (j : Nat) (hj : j < n.cells.length) => find_at (key := key) hz.1.up.1 hj (n.found key) rfl)
        have HBE := hide (fun (i : Nat) (h1 : i < plc n.cells key) (h2 : i < n.cells.length) => plc_below (cs := n.cells) (key := key) h1 h2)
        have HAB := hide (fun (i : Nat) (h1 : plc n.cells key ≤ i) (h2 : i < n.cells.length) => plc_above (cs := n.cells) (key := key) hz.1.up.1 h1 h2)
        have hpl := plc_le n.cells key
        have HTO : Hid (n.to key = if n.found key then plc n.cells key + 1 else plc n.cells key) := rfl
        have HMC : Hid ((n.put key val).cells = n.cells.take (plc n.cells key) ++ (⟨key, val⟩ :: n.cells.drop (n.to key))) := rfl
        clear hr hz hch hlf HIN hk0 hcm
        generalize n.ptE key val = EE at *
        generalize n.ptR key val = RR at *
        generalize n.put key val = m at *
        generalize n.found key = fd at *
        generalize n.to key = T at *
        generalize plc n.cells key = p at *
        obtain ⟨lf0, cs, ks, gs⟩ := n
        have HC : Hid (Lies u ca (flatC cs)) := unhide HC
        have HFA : Hid (∀ (j : Nat) (hj : j < cs.length), (cs[j].key.toList == key.toList) = (decide (j = p) && fd)) := unhide HFA
        have HBE : Hid (∀ (j : Nat), j < p → ∀ (hj : j < cs.length), Op.bytesLess cs[j].key.toList key.toList = true) := unhide HBE
        have HAB : Hid (∀ (j : Nat), p ≤ j → ∀ (hj : j < cs.length), Op.bytesLess cs[j].key.toList key.toList = false) := unhide HAB
        have HMC : Hid (m.cells = cs.take p ++ (⟨key, val⟩ :: cs.drop T)) := unhide HMC
        have hln : (cs.length : Int) ≤ 1992 := hln
        have hpl : p ≤ cs.length := hpl
        have HTL : Hid (p ≤ T ∧ T ≤ p + 1) := by
          have := unhide HTO
          show p ≤ T ∧ T ≤ p + 1
          rw [this]; split <;> omega
        have HLT := hide (fun (j : Nat) (hj : j < cs.length) (hp : j < p) => ptL_lt (T := T) (x := ⟨key, val⟩) hj hp)
        have HGT := hide (fun (j : Nat) (hj : j < cs.length) (hp : p < j) => ptL_gt (T := T) (x := ⟨key, val⟩) hj hp (unhide HTL).2)
        have HAT := hide (fun (hj : p < cs.length) (hT : T = p + 1) => (show ptL cs p T ⟨key, val⟩ (p + 1) = ptL cs p T ⟨key, val⟩ p ++ [⟨key, val⟩] from by rw [hT]; exact ptL_at hj))
        have HAT2 := hide (fun (hj : p < cs.length) (hT : T = p) => (show ptL cs p T ⟨key, val⟩ (p + 1) = ptL cs p T ⟨key, val⟩ p ++ [⟨key, val⟩] ++ [cs[p]] from by rw [hT]; exact ptL_at2 hj))
        have HE1 := hide (fun (hp : p < cs.length) => (ptL_end (T := T) (x := ⟨key, val⟩) hp).trans (unhide HMC).symm)
        have HE2 := hide (fun (hp : p = cs.length) => (ptL_end2 (T := T) (x := ⟨key, val⟩) hp (unhide HTL).1).trans (unhide HMC).symm)
        have HLL := hide (fun j : Nat => ptL_len cs p T j ⟨key, val⟩)
        have H1 : Hid (∀ (v : World), Below N u v → Calls Try.prog 19 #[.agg #[.bool true, .slice ca cs.length cc, .slice ka ks.length kc, .slice ga gs.length gc]] v fun e u' => e = .returned (.int .i64 0) ∧ Below v.heap.size v u') := unhide H1
        show Calls Try.prog 37 #[.agg #[.bool true, .slice ca cs.length cc, .slice ka ks.length kc, .slice ga gs.length gc], .string key, .string val] u fun e u' => ∃ y : Nv, e = .returned (.tuple #[y.v RR, .int .i64 EE]) ∧ Ow u' N RR.cells RR.keys RR.kids y ∧ Below N u u'
        generalize hPL : ptL cs p T ⟨key, val⟩ = PL at *
        have HP0 : Hid (PL 0 = []) := by show _ = _; rw [← hPL]; simp [ptL]
        clear hPL
        obtain ⟨cn, hcn⟩ : ∃ cn, cn = cs.length := ⟨_, rfl⟩
        have HCN := hide hcn
        rw [← hcn] at H1 hln hpl HLL HE1 HE2 HAT ⊢
        obtain ⟨lm, hlm⟩ : ∃ lm, lm = m.cells.length := ⟨_, rfl⟩
        have HLM := hide hlm
        clear hcn hlm HMC HTL
        generalize ks.length = kn at *
        generalize gs.length = gn at *
        obtain ⟨i0, hi0⟩ := cell_parts
        have HI0 := hide hi0
        clear hi0
        go_enter Try.func37, Try.ntmps37
        go_wp2_with (first
          | ((with_reducible refine wpList_box_node (by rfl) (.tmp 0) (by rfl) (some 3) (by rfl) N (unhide HN) true ca cn cc ka kn kc ga gn gc (by with_unfolding_all rfl) ?_); intro W0 HX0 HB0 HS0; simp only [Act.put, List.setIfInBounds_toArray, List.set_cons_zero, List.set_cons_succ])
          | ((with_reducible refine wpList_alloc_node (by rfl) (by rfl) (some 6) (by rfl) (N + 1) (unhide HS0).symm ?_); intro W1 HX1 HB1 HS1; simp only [Act.put, List.setIfInBounds_toArray, List.set_cons_zero, List.set_cons_succ]; have HX1b := hide (((unhide HB1).block N (Nat.lt_succ_self _)).trans (unhide HX0)); obtain ⟨y0, y1, y2, y3⟩ := box4 (unhide HX1b))
          | fail)
        have HBL : Hid (Below N u W1) := (unhide HB0).trans ((unhide HB1).mono (Nat.le_succ _))
        refine (unhide H1 _ (unhide HBL)).mono ?_
        rintro e W2 ⟨rfl, hb2⟩
        have HX2 := hide (box_below (unhide HX1) hb2)
        have HX2b := hide (box_below (unhide HX1b) hb2)
        have HBL2 : Hid (Below N u W2) := (unhide HBL).trans (hb2.mono (by rw [unhide HS1]; omega))
        clear hb2 y0 y1 y2 y3 HX0 HB0 HS0 HB1 HS1 HX1 HX1b HBL
        obtain ⟨y0, y1, y2, y3⟩ := box4 (unhide HX2b)
        obtain ⟨X, hX⟩ : ∃ X, X = W2.heap.size := ⟨_, rfl⟩
        have HXX := hide hX
        clear hX
        go_wp2_with (first
          | ((with_reducible refine wpList_alloc_cell (by rfl) (by rfl) (some 9) (by rfl) X (unhide HXX) ?_); intro W3 HX3 HB3 HS3; simp only [Act.put, List.setIfInBounds_toArray, List.set_cons_zero, List.set_cons_succ])
          | ((with_reducible refine wpList_store_cell (by rfl) (.tmp 9) (.tmp 28) (by rfl) X key val (by with_unfolding_all rfl) (by with_unfolding_all rfl) (unhide HX3) ?_); intro W3b HX3b HE3b; simp only [Act.put]; obtain ⟨c0, c1⟩ := box2 (unhide HX3b))
          | fail)
        have HB3b : Hid (Below W2.heap.size W2 W3b) := by rw [unhide HE3b, ← unhide HXX]; exact belowRow (unhide HB3) (Nat.le_refl _) _
        refine (unhide HCM _).mono ?_
        rintro e W4 ⟨rfl, hb4⟩
        have HB24 : Hid (Below W2.heap.size W2 W4) := (unhide HB3b).trans (hb4.mono (unhide HB3b).size)
        have HX4 := hide (box_below (unhide HX2) (unhide HB24))
        have HX4b := hide (box_below (unhide HX2b) (unhide HB24))
        have HX4c := hide (box_below (unhide HX3b) hb4)
        have HZ4 : Hid (N + 2 ≤ W4.heap.size) := (Array.getElem?_eq_some_iff.1 (unhide HX4)).1
        have HBL4 : Hid (Below N u W4) := (unhide HBL2).trans ((unhide HB24).mono (by have := (Array.getElem?_eq_some_iff.1 (unhide HX2)).1; omega))
        clear hb4 HX3 HB3 HS3 HX3b HE3b HB3b HB24 HX2 HX2b HBL2 HXX c0 c1 y0 y1 y2 y3 HCM H1
        go_wp2_with fail
        go_loopw [10, 11, 12] (fun v t i wr => ∃ (j : Nat) (ao : Option Addr) (cp : Nat), j ≤ cn ∧ v = .slice ao (PL j).length cp ∧ t = .bool (decide (p < j)) ∧ i = .int .i64 j ∧ Hid (Gr W4 wr (PL j) (.slice ao (PL j).length cp))) (fun _ _ i _ => cn - (intOf i).toNat)
        case atStart => exact ⟨0, none, 0, Nat.zero_le _, by rw [unhide HP0]; rfl, by simp, rfl, by show Gr _ _ _ _; rw [unhide HP0]; exact Gr.start W4⟩
        case round =>
          obtain ⟨j, ao, cp, hj, rfl, rfl, rfl, HI⟩ := hrel
          obtain ⟨y0, y1, y2, y3⟩ := box4 ((unhide HI).box (unhide HX4b))
          obtain ⟨c0, c1⟩ := box2 ((unhide HI).box (unhide HX4c))
          have hlen := unhide HLL j
          obtain ⟨ln, hl⟩ : ∃ ln, ln = (PL j).length := ⟨_, rfl⟩
          have HO := hide (unhide HI).own
          rw [← hl] at HO hlen ⊢
          have HL := hide hl
          clear hl
          by_cases hlt : j < cn
          · have hji : (j : Int) < (cn : Int) := by omega
            have hjl : j < cs.length := by rw [← unhide HCN]; exact hlt
            have hbw : Below u.heap.size u wr := by rw [← unhide HN]; exact (unhide HBL4).trans ((unhide HI).bel.mono (by have := unhide HZ4; omega))
            obtain ⟨g, o, hao, hc, hv⟩ := ((unhide HC).below hbw).cl hjl
            subst hao
            have hix := ixCells g o cn cc j hlt
            have heq := unhide HFA j hjl
            have HLTj := hide (unhide HLT j hjl)
            have HGTj := hide (unhide HGT j hjl)
            have hlo : j < p → Op.bytesLess cs[j].key.toList key.toList = true := fun hh => unhide HBE j hh hjl
            have hhi : p ≤ j → Op.bytesLess cs[j].key.toList key.toList = false := fun hh => unhide HAB j hh hjl
            have HAT2j : Hid (j = p → T = p → PL (j + 1) = PL j ++ [⟨key, val⟩] ++ [cs[j]]) := fun hx hT => by subst hx; exact unhide HAT2 hjl hT
            generalize hck : cs[j] = c at *
            obtain ⟨q, w⟩ := c
            replace hc : wr.cell? ⟨g, o + j * 2, none⟩ = some (.string q) := hc
            replace hv : wr.cell? ⟨g, o + j * 2 + 1, none⟩ = some (.string w) := hv
            replace heq : (q.toList == key.toList) = (decide (j = p) && fd) := heq
            replace hlo : j < p → Op.bytesLess q.toList key.toList = true := hlo
            replace hhi : p ≤ j → Op.bytesLess q.toList key.toList = false := hhi
            have HCW : Hid (∀ w9 : World, Below W4.heap.size W4 w9 → w9.cell? ⟨g, o + j * 2, none⟩ = some (.string q) ∧ w9.cell? ⟨g, o + j * 2 + 1, none⟩ = some (.string w)) := fun w9 hb9 => by
              obtain ⟨g', o', hao', a1, a2⟩ := ((unhide HC).below (by rw [← unhide HN]; exact (unhide HBL4).trans (hb9.mono (by have := unhide HZ4; omega)))).cl hjl
              cases hao'
              rw [hck] at a1 a2
              exact ⟨a1, a2⟩
            clear hck hjl hbw
            generalize o + j * 2 = j2 at *
            clear HFA HBE HAB HLT HGT HAT2 HE1 HE2 HLL HBIG HSML HSMA HFINE HMK HMV HP0 HC HLM HX4 hks hvs
            rcases Nat.lt_trichotomy j p with hjp | hjp | hjp
            · have h1 := hlo hjp
              have h2 : (q.toList == key.toList) = false := by rw [heq, decide_eq_false (by omega)]; rfl
              have e2 : decide (p < j) = false := decide_eq_false (by omega)
              have HE4 : Hid (decide (p < j + 1) = false) := decide_eq_false (by omega)
              have HEQ := hide (unhide HLTj hjp)
              rw [e2]
              clear hlo hhi heq hjp e2 HLTj HGTj HAT2j HAT HTO HCW
              go_wp2_with (first
                | (at_builtin; refine W.wpList_put _ rfl (.tmp 64) (.tmp 70) 22 rfl W4.heap.size 66 i0 (.agg #[.string ⟨#[]⟩, .string ⟨#[]⟩]) 2 32 undC (unhide HI0).1 (unhide HI0).2.1 (unhide HI0).2.2.1 (unhide HI0).2.2.2 rfl (by decide) (.slice ao ln cp) (ln) (flatC (PL j)) rfl ((unhide HO).alloc _) ⟨_, 0, none⟩ 1 1 [.string q, .string w] rfl rfl (two_new _ _ _ _) (by simp [Value.oneCell']) (by simp only [maxLen]; omega) (by omega) (by have := (unhide HI).bel.size; simp; omega) ?_; intro v' w10 hown' hgrow hnew; clear hnew; obtain ⟨ao2, cp2, rfl⟩ := W.owns_shape hown'; rw [unhide HL] at hgrow hown'; have HI7 := hide ((unhide HI).put hgrow hown'); rw [← unhide HEQ, ← unhide HL] at HI7; clear hown' hgrow)
                | fail)
              have HLE : Hid (ln + 1 = (PL (j + 1)).length) := by show _ = _; rw [unhide HEQ, List.length_append, ← unhide HL]; rfl
              clear y0 y1 y2 y3 HO c0 c1
              go_wp2
              go_roundw
              case rel => exact ⟨j + 1, ao2, cp2, by omega, by rw [← unhide HLE], by rw [unhide HE4], by go_num, by rw [← unhide HLE]; exact unhide HI7⟩
              case measure => simp [intOf]; omega
            · have h1 := hhi (by omega)
              have e2 : decide (p < j) = false := decide_eq_false (by omega)
              have HE4 : Hid (decide (p < j + 1) = true) := decide_eq_true (by omega)
              have h2 : (q.toList == key.toList) = fd := by rw [heq, decide_eq_true hjp]; rfl
              have hTO := unhide HTO
              rw [e2]
              cases fd
              · have hT : T = p := hTO
                have HEQ := hide (unhide HAT2j hjp hT)
                clear hlo hhi heq hjp e2 HLTj HGTj HAT2j hTO hT HAT HTO
                go_wp2_with (first
                  | (at_builtin; refine W.wpList_put _ rfl (.tmp 52) (.tmp 54) 22 rfl W4.heap.size 66 i0 (.agg #[.string ⟨#[]⟩, .string ⟨#[]⟩]) 2 32 undC (unhide HI0).1 (unhide HI0).2.1 (unhide HI0).2.2.1 (unhide HI0).2.2.2 rfl (by decide) (.slice ao ln cp) (ln) (flatC (PL j)) rfl ((unhide HO).alloc _) ⟨_, 0, none⟩ 1 1 [.string key, .string val] rfl rfl (two_new _ _ _ _) (by simp [Value.oneCell']) (by simp only [maxLen]; omega) (by omega) (by have := (unhide HI).bel.size; simp; omega) ?_; intro v' w10 hown' hgrow hnew; clear hnew; obtain ⟨ao2, cp2, rfl⟩ := W.owns_shape hown'; have HO7 : Hid (w10.ownsRow W4.heap.size 66 2 (.slice ao2 (ln + 1) cp2) (ln + 1) (flatC (PL j ++ [⟨key, val⟩]))) := (by rw [flatC_app]; exact hown'); rw [unhide HL] at hgrow hown'; have HI7 := hide ((unhide HI).put hgrow hown'); rw [← unhide HL] at HI7; clear hown' hgrow; obtain ⟨y0, y1, y2, y3⟩ := box4 ((unhide HI7).box (unhide HX4b)); have hc := ((unhide HCW) _ ((unhide HI7).bel)).1; have hv := ((unhide HCW) _ ((unhide HI7).bel)).2)
                  | (at_builtin; refine W.wpList_put _ rfl (.tmp 64) (.tmp 70) 22 rfl W4.heap.size 66 i0 (.agg #[.string ⟨#[]⟩, .string ⟨#[]⟩]) 2 32 undC (unhide HI0).1 (unhide HI0).2.1 (unhide HI0).2.2.1 (unhide HI0).2.2.2 rfl (by decide) (.slice ao2 (ln + 1) cp2) (ln + 1) (flatC (PL j ++ [⟨key, val⟩])) rfl ((unhide HO7).alloc _) ⟨_, 0, none⟩ 1 1 [.string q, .string w] rfl rfl (two_new _ _ _ _) (by simp [Value.oneCell']) (by simp only [maxLen]; omega) (by omega) (by have := (unhide HI7).bel.size; simp; omega) ?_; intro v' w11 hown' hgrow hnew; clear hnew; obtain ⟨ao3, cp3, rfl⟩ := W.owns_shape hown'; rw [show ln + 1 = (PL j ++ [(⟨key, val⟩ : Cl)]).length from by rw [List.length_append, ← unhide HL]; rfl] at hgrow hown'; rw [show ln + 1 = (PL j ++ [(⟨key, val⟩ : Cl)]).length from by rw [List.length_append, ← unhide HL]; rfl] at HI7; have HI8 := hide ((unhide HI7).put hgrow hown'); rw [← unhide HEQ, show (PL j ++ [(⟨key, val⟩ : Cl)]).length = ln + 1 from by rw [List.length_append, ← unhide HL]; rfl] at HI8; clear hown' hgrow)
                  | fail)
                have HLE : Hid (ln + 1 + 1 = (PL (j + 1)).length) := by show _ = _; rw [unhide HEQ, List.length_append, List.length_append, ← unhide HL]; rfl
                clear y0 y1 y2 y3 HO c0 c1
                go_wp2
                go_roundw
                case rel => exact ⟨j + 1, ao3, cp3, by omega, by rw [← unhide HLE], by rw [unhide HE4], by go_num, by rw [← unhide HLE]; exact unhide HI8⟩
                case measure => simp [intOf]; omega
              · have hT : T = p + 1 := hTO
                have HEQ : Hid (PL (j + 1) = PL j ++ [⟨key, val⟩]) := by rw [hjp]; exact unhide HAT (by omega) hT
                clear hlo hhi heq hjp e2 HLTj HGTj HAT2j hTO hT HAT HTO
                go_wp2_with (first
                  | (at_builtin; refine W.wpList_put _ rfl (.tmp 52) (.tmp 54) 22 rfl W4.heap.size 66 i0 (.agg #[.string ⟨#[]⟩, .string ⟨#[]⟩]) 2 32 undC (unhide HI0).1 (unhide HI0).2.1 (unhide HI0).2.2.1 (unhide HI0).2.2.2 rfl (by decide) (.slice ao ln cp) (ln) (flatC (PL j)) rfl ((unhide HO).alloc _) ⟨_, 0, none⟩ 1 1 [.string key, .string val] rfl rfl (two_new _ _ _ _) (by simp [Value.oneCell']) (by simp only [maxLen]; omega) (by omega) (by have := (unhide HI).bel.size; simp; omega) ?_; intro v' w10 hown' hgrow hnew; clear hnew; obtain ⟨ao2, cp2, rfl⟩ := W.owns_shape hown'; have HO7 : Hid (w10.ownsRow W4.heap.size 66 2 (.slice ao2 (ln + 1) cp2) (ln + 1) (flatC (PL j ++ [⟨key, val⟩]))) := (by rw [flatC_app]; exact hown'); rw [unhide HL] at hgrow hown'; have HI7 := hide ((unhide HI).put hgrow hown'); rw [← unhide HL] at HI7; clear hown' hgrow; obtain ⟨y0, y1, y2, y3⟩ := box4 ((unhide HI7).box (unhide HX4b)); have hc := ((unhide HCW) _ ((unhide HI7).bel)).1; have hv := ((unhide HCW) _ ((unhide HI7).bel)).2)
                  | fail)
                have HLE : Hid (ln + 1 = (PL (j + 1)).length) := by show _ = _; rw [unhide HEQ, List.length_append, ← unhide HL]; rfl
                clear y0 y1 y2 y3 HO c0 c1
                go_wp2
                go_roundw
                case rel => exact ⟨j + 1, ao2, cp2, by omega, by rw [← unhide HLE], by rw [unhide HE4], by go_num, by rw [← unhide HLE, unhide HEQ]; exact unhide HI7⟩
                case measure => simp [intOf]; omega
            · have h2 : (q.toList == key.toList) = false := by rw [heq, decide_eq_false (by omega)]; rfl
              have e2 : decide (p < j) = true := decide_eq_true hjp
              have HE4 : Hid (decide (p < j + 1) = true) := decide_eq_true (by omega)
              have HEQ := hide (unhide HGTj hjp)
              rw [e2]
              clear hlo hhi heq hjp e2 HLTj HGTj HAT2j HAT HTO HCW
              go_wp2_with (first
                | (at_builtin; refine W.wpList_put _ rfl (.tmp 64) (.tmp 70) 22 rfl W4.heap.size 66 i0 (.agg #[.string ⟨#[]⟩, .string ⟨#[]⟩]) 2 32 undC (unhide HI0).1 (unhide HI0).2.1 (unhide HI0).2.2.1 (unhide HI0).2.2.2 rfl (by decide) (.slice ao ln cp) (ln) (flatC (PL j)) rfl ((unhide HO).alloc _) ⟨_, 0, none⟩ 1 1 [.string q, .string w] rfl rfl (two_new _ _ _ _) (by simp [Value.oneCell']) (by simp only [maxLen]; omega) (by omega) (by have := (unhide HI).bel.size; simp; omega) ?_; intro v' w10 hown' hgrow hnew; clear hnew; obtain ⟨ao2, cp2, rfl⟩ := W.owns_shape hown'; rw [unhide HL] at hgrow hown'; have HI7 := hide ((unhide HI).put hgrow hown'); rw [← unhide HEQ, ← unhide HL] at HI7; clear hown' hgrow)
                | fail)
              have HLE : Hid (ln + 1 = (PL (j + 1)).length) := by show _ = _; rw [unhide HEQ, List.length_append, ← unhide HL]; rfl
              clear y0 y1 y2 y3 HO c0 c1
              go_wp2
              go_roundw
              case rel => exact ⟨j + 1, ao2, cp2, by omega, by rw [← unhide HLE], by rw [unhide HE4], by go_num, by rw [← unhide HLE]; exact unhide HI7⟩
              case measure => simp [intOf]; omega
          · obtain rfl : j = cn := by omega
            have hji : ¬ (j : Int) < (j : Int) := by omega
            clear HFA HBE HAB HLT HGT HAT HAT2 HTO HLL HP0 HC hks hvs
            by_cases hpc : p < j
            · have e2 : decide (p < j) = true := decide_eq_true hpc
              have HPM := hide (unhide HE1 hpc)
              have hll : ln = lm := by rw [unhide HL, unhide HLM, ← unhide HPM]
              have HI9 : Hid (Gr W4 wr m.cells (.slice ao lm cp)) := by
                have h9 := unhide HI
                rw [show PL j = m.cells from unhide HPM, ← unhide HLM] at h9
                exact h9
              subst hll
              rw [e2]
              clear e2 hpc HPM HI c0 c1 HO
              go_wp2_with fail
              clear y0 y1 y2 y3

              have HOwr : Hid (Ow wr N m.cells m.keys m.kids ⟨ao, cp, none, 0, none, 0⟩) := by
                have ho := (unhide HI9).own
                have hz := unhide HZ4
                refine ⟨?_, ?_, ?_⟩
                · show wr.ownsRow N 66 2 (.slice ao m.cells.length cp) m.cells.length (flatC m.cells)
                  rw [← unhide HLM] at ho ⊢; exact own_down ho (by omega)
                · rw [(unhide HMK).1]; exact World.ownsRow_nil _ _ _ _
                · rw [(unhide HMK).2]; exact World.ownsRow_nil _ _ _ _
              have HBL9 : Hid (Below N u wr) := (unhide HBL4).trans ((unhide HI9).bel.mono (by have := unhide HZ4; omega))
              have HR9 := hide ((unhide HI9).box (unhide HX4))
              have HZ9 : Hid (N + 2 ≤ wr.heap.size) := (Array.getElem?_eq_some_iff.1 (unhide HR9)).1
              have HLF := hide (rLeaf ao ln cp wr)
              refine (unhide HLF).mono ?_
              rintro e W10 ⟨rfl, hb10⟩
              have HOW10 := hide ((unhide HOwr).below hb10)
              have HBL10 : Hid (Below N u W10) := (unhide HBL9).trans (hb10.mono (by have := unhide HZ9; omega))
              have HR10 := hide (box_below (unhide HR9) hb10)
              clear hb10 HLF
              have HLG := hide (rLong m ⟨ao, cp, none, 0, none, 0⟩ (unhide HSMA) W10 ((unhide HOW10).at' (unhide HFINE)))
              rw [unhide HMV, ← unhide HLM] at HLG
              go_wp2_with fail
              refine (unhide HLG).mono ?_
              rintro e W11 ⟨rfl, hb11⟩
              have HOW11 := hide ((unhide HOW10).below hb11)
              have HBL11 : Hid (Below N u W11) := (unhide HBL10).trans (hb11.mono (by have := (Array.getElem?_eq_some_iff.1 (unhide HR10)).1; omega))
              have HR11 := hide (box_below (unhide HR10) hb11)
              clear hb11 HLG
              by_cases hsz : 1992 < m.size
              · have hszi : (1992 : Int) < (m.size : Int) := by omega
                have HER := hide (unhide HBIG hsz)
                clear hsz
                generalize m.size = sz at *
                go_wp2_with (first
                  | ((with_reducible refine wpList_store_node (by rfl) (.tmp 6) (.tmp 82) (by rfl) (N + 1) false none 0 0 none 0 0 none 0 0 (by with_unfolding_all rfl) (by with_unfolding_all rfl) (unhide HR11) ?_); intro W12 HX12 HE12; simp only [Act.put])
                  | fail)
                have HB12 : Hid (Below N u W12) := by rw [unhide HE12]; exact belowRow (unhide HBL11) (Nat.le_succ N) _
                go_wp2
                refine bodyPost_ret (results_cell_tmp rfl _ _ (N + 1) 26 #[.bool false, .slice none 0 0, .slice none 0 0, .slice none 0 0] (0, 0) _ rfl (unhide HX12) nodeUnd rfl nodeInfo) rfl ?_
                rw [(unhide HER).1, (unhide HER).2]
                exact ⟨⟨none, 0, none, 0, none, 0⟩, rfl, zero_ow _ _, unhide HB12⟩
              · have hszi : ¬ (1992 : Int) < (m.size : Int) := by omega
                have HER := hide (unhide HSML hsz)
                clear hsz
                generalize m.size = sz at *
                have HLF := hide (rLeaf ao ln cp W11)
                go_wp2_with fail
                refine (unhide HLF).mono ?_
                rintro e W12 ⟨rfl, hb12⟩
                have HOW12 := hide ((unhide HOW11).below hb12)
                have HBL12 : Hid (Below N u W12) := (unhide HBL11).trans (hb12.mono (by have := (Array.getElem?_eq_some_iff.1 (unhide HR11)).1; omega))
                have HR12 := hide (box_below (unhide HR11) hb12)
                clear hb12 HLF
                go_wp2_with (first
                  | ((with_reducible refine wpList_store_node (by rfl) (.tmp 6) (.tmp 84) (by rfl) (N + 1) true ao ln cp none 0 0 none 0 0 (by with_unfolding_all rfl) (by with_unfolding_all rfl) (unhide HR12) ?_); intro W13 HX13 HE13; simp only [Act.put])
                  | fail)
                have HZ : Hid (Below N u W13 ∧ Ow W13 N m.cells m.keys m.kids ⟨ao, cp, none, 0, none, 0⟩) := by
                  rw [unhide HE13]
                  refine ⟨belowRow (unhide HBL12) (Nat.le_succ N) _, own_keep (unhide HOW12).c (fun g hg => heapRow_other _ _ _ _ ?_), own_keep (unhide HOW12).k (fun g hg => heapRow_other _ _ _ _ ?_), own_keep (unhide HOW12).g (fun g hg => heapRow_other _ _ _ _ ?_)⟩
                  · exact not_node (unhide HOW12).c (by decide) (unhide HR12) g hg
                  · exact not_node (unhide HOW12).k (by decide) (unhide HR12) g hg
                  · exact not_node (unhide HOW12).g (by decide) (unhide HR12) g hg
                go_wp2
                refine bodyPost_ret (results_cell_tmp rfl _ _ (N + 1) 26 #[.bool true, .slice ao ln cp, .slice none 0 0, .slice none 0 0] (0, 0) _ rfl (unhide HX13) nodeUnd rfl nodeInfo) rfl ?_
                rw [(unhide HER).1, (unhide HER).2]
                exact ⟨⟨ao, cp, none, 0, none, 0⟩, by rw [unhide HMV, ← unhide HLM]; rfl, (unhide HZ).2, (unhide HZ).1⟩
            · obtain rfl : p = j := by omega
              have e2 : decide (p < p) = false := decide_eq_false (by omega)
              have HPM := hide (unhide HE2 rfl)
              rw [e2]
              clear e2 hpc
              go_wp2_with (first
                | (at_builtin; refine W.wpList_put _ rfl (.tmp 74) (.tmp 76) 22 rfl W4.heap.size 66 i0 (.agg #[.string ⟨#[]⟩, .string ⟨#[]⟩]) 2 32 undC (unhide HI0).1 (unhide HI0).2.1 (unhide HI0).2.2.1 (unhide HI0).2.2.2 rfl (by decide) (.slice ao ln cp) (ln) (flatC (PL p)) rfl ((unhide HO).alloc _) ⟨_, 0, none⟩ 1 1 [.string key, .string val] rfl rfl (two_new _ _ _ _) (by simp [Value.oneCell']) (by simp only [maxLen]; omega) (by omega) (by have := (unhide HI).bel.size; simp; omega) ?_; intro v' w10 hown' hgrow hnew; clear hnew; obtain ⟨ao2, cp2, rfl⟩ := W.owns_shape hown'; rw [unhide HL] at hgrow hown'; have HI7 := hide ((unhide HI).put hgrow hown'); rw [← unhide HL] at HI7; clear hown' hgrow)
                | fail)
              have HLE : Hid (ln + 1 = lm) := by show _ = _; rw [unhide HLM, ← unhide HPM, List.length_append, unhide HL]; rfl
              have HI9 : Hid (Gr W4 w10 m.cells (.slice ao2 lm cp2)) := by
                have h9 := unhide HI7
                rw [show PL p ++ [(⟨key, val⟩ : Cl)] = m.cells from unhide HPM, unhide HLE] at h9
                exact h9
              rw [unhide HLE]
              clear HPM HI HI7 y0 y1 y2 y3 c0 c1 HO

              have HOw10 : Hid (Ow w10 N m.cells m.keys m.kids ⟨ao2, cp2, none, 0, none, 0⟩) := by
                have ho := (unhide HI9).own
                have hz := unhide HZ4
                refine ⟨?_, ?_, ?_⟩
                · show w10.ownsRow N 66 2 (.slice ao2 m.cells.length cp2) m.cells.length (flatC m.cells)
                  rw [← unhide HLM] at ho ⊢; exact own_down ho (by omega)
                · rw [(unhide HMK).1]; exact World.ownsRow_nil _ _ _ _
                · rw [(unhide HMK).2]; exact World.ownsRow_nil _ _ _ _
              have HBL9 : Hid (Below N u w10) := (unhide HBL4).trans ((unhide HI9).bel.mono (by have := unhide HZ4; omega))
              have HR9 := hide ((unhide HI9).box (unhide HX4))
              have HZ9 : Hid (N + 2 ≤ w10.heap.size) := (Array.getElem?_eq_some_iff.1 (unhide HR9)).1
              have HLF := hide (rLeaf ao2 lm cp2 w10)
              refine (unhide HLF).mono ?_
              rintro e W10 ⟨rfl, hb10⟩
              have HOW10 := hide ((unhide HOw10).below hb10)
              have HBL10 : Hid (Below N u W10) := (unhide HBL9).trans (hb10.mono (by have := unhide HZ9; omega))
              have HR10 := hide (box_below (unhide HR9) hb10)
              clear hb10 HLF
              have HLG := hide (rLong m ⟨ao2, cp2, none, 0, none, 0⟩ (unhide HSMA) W10 ((unhide HOW10).at' (unhide HFINE)))
              rw [unhide HMV, ← unhide HLM] at HLG
              go_wp2_with fail
              refine (unhide HLG).mono ?_
              rintro e W11 ⟨rfl, hb11⟩
              have HOW11 := hide ((unhide HOW10).below hb11)
              have HBL11 : Hid (Below N u W11) := (unhide HBL10).trans (hb11.mono (by have := (Array.getElem?_eq_some_iff.1 (unhide HR10)).1; omega))
              have HR11 := hide (box_below (unhide HR10) hb11)
              clear hb11 HLG
              by_cases hsz : 1992 < m.size
              · have hszi : (1992 : Int) < (m.size : Int) := by omega
                have HER := hide (unhide HBIG hsz)
                clear hsz
                generalize m.size = sz at *
                go_wp2_with (first
                  | ((with_reducible refine wpList_store_node (by rfl) (.tmp 6) (.tmp 82) (by rfl) (N + 1) false none 0 0 none 0 0 none 0 0 (by with_unfolding_all rfl) (by with_unfolding_all rfl) (unhide HR11) ?_); intro W12 HX12 HE12; simp only [Act.put])
                  | fail)
                have HB12 : Hid (Below N u W12) := by rw [unhide HE12]; exact belowRow (unhide HBL11) (Nat.le_succ N) _
                go_wp2
                refine bodyPost_ret (results_cell_tmp rfl _ _ (N + 1) 26 #[.bool false, .slice none 0 0, .slice none 0 0, .slice none 0 0] (0, 0) _ rfl (unhide HX12) nodeUnd rfl nodeInfo) rfl ?_
                rw [(unhide HER).1, (unhide HER).2]
                exact ⟨⟨none, 0, none, 0, none, 0⟩, rfl, zero_ow _ _, unhide HB12⟩
              · have hszi : ¬ (1992 : Int) < (m.size : Int) := by omega
                have HER := hide (unhide HSML hsz)
                clear hsz
                generalize m.size = sz at *
                have HLF := hide (rLeaf ao2 lm cp2 W11)
                go_wp2_with fail
                refine (unhide HLF).mono ?_
                rintro e W12 ⟨rfl, hb12⟩
                have HOW12 := hide ((unhide HOW11).below hb12)
                have HBL12 : Hid (Below N u W12) := (unhide HBL11).trans (hb12.mono (by have := (Array.getElem?_eq_some_iff.1 (unhide HR11)).1; omega))
                have HR12 := hide (box_below (unhide HR11) hb12)
                clear hb12 HLF
                go_wp2_with (first
                  | ((with_reducible refine wpList_store_node (by rfl) (.tmp 6) (.tmp 84) (by rfl) (N + 1) true ao2 lm cp2 none 0 0 none 0 0 (by with_unfolding_all rfl) (by with_unfolding_all rfl) (unhide HR12) ?_); intro W13 HX13 HE13; simp only [Act.put])
                  | fail)
                have HZ : Hid (Below N u W13 ∧ Ow W13 N m.cells m.keys m.kids ⟨ao2, cp2, none, 0, none, 0⟩) := by
                  rw [unhide HE13]
                  refine ⟨belowRow (unhide HBL12) (Nat.le_succ N) _, own_keep (unhide HOW12).c (fun g hg => heapRow_other _ _ _ _ ?_), own_keep (unhide HOW12).k (fun g hg => heapRow_other _ _ _ _ ?_), own_keep (unhide HOW12).g (fun g hg => heapRow_other _ _ _ _ ?_)⟩
                  · exact not_node (unhide HOW12).c (by decide) (unhide HR12) g hg
                  · exact not_node (unhide HOW12).k (by decide) (unhide HR12) g hg
                  · exact not_node (unhide HOW12).g (by decide) (unhide HR12) g hg
                go_wp2
                refine bodyPost_ret (results_cell_tmp rfl _ _ (N + 1) 26 #[.bool true, .slice ao2 lm cp2, .slice none 0 0, .slice none 0 0] (0, 0) _ rfl (unhide HX13) nodeUnd rfl nodeInfo) rfl ?_
                rw [(unhide HER).1, (unhide HER).2]
                exact ⟨⟨ao2, cp2, none, 0, none, 0⟩, by rw [unhide HMV, ← unhide HLM]; rfl, (unhide HZ).2, (unhide HZ).1⟩
      · rw [decide_eq_false hcm] at HCM
        have h1 := unhide HIN hcm
        have hE : n.ptE key val = 82 := by unfold Nd.ptE; rw [if_neg (fun hx => hx hr), if_neg hk0, h1]
        have hR : n.ptR key val = zeroNd := by unfold Nd.ptR; rw [if_neg (fun hx => by rw [h1] at hx; exact absurd hx.2.2 (by decide))]
        rw [hE, hR]
        clear hE hR h1 hr hz hch hlf HC HSTR hln HIN hk0 hcm
        generalize n.cells.length = cn at *
        generalize n.keys.length = kn at *
        generalize n.kids.length = gn at *
        go_enter Try.func37, Try.ntmps37
        go_wp2_with (first
          | ((with_reducible refine wpList_box_node (by rfl) (.tmp 0) (by rfl) (some 3) (by rfl) N (unhide HN) true ca cn cc ka kn kc ga gn gc (by with_unfolding_all rfl) ?_); intro W0 HX0 HB0 HS0; simp only [Act.put, List.setIfInBounds_toArray, List.set_cons_zero, List.set_cons_succ])
          | ((with_reducible refine wpList_alloc_node (by rfl) (by rfl) (some 6) (by rfl) (N + 1) (unhide HS0).symm ?_); intro W1 HX1 HB1 HS1; simp only [Act.put, List.setIfInBounds_toArray, List.set_cons_zero, List.set_cons_succ]; have HX1b := hide (((unhide HB1).block N (Nat.lt_succ_self _)).trans (unhide HX0)); obtain ⟨y0, y1, y2, y3⟩ := box4 (unhide HX1b))
          | fail)
        have HBL : Hid (Below N u W1) := (unhide HB0).trans ((unhide HB1).mono (Nat.le_succ _))
        refine (unhide H1 _ (unhide HBL)).mono ?_
        rintro e W2 ⟨rfl, hb2⟩
        have HX2 := hide (box_below (unhide HX1) hb2)
        have HX2b := hide (box_below (unhide HX1b) hb2)
        have HBL2 : Hid (Below N u W2) := (unhide HBL).trans (hb2.mono (by rw [unhide HS1]; omega))
        clear hb2 y0 y1 y2 y3 HX0 HB0 HS0 HB1 HS1 HX1 HX1b HBL
        obtain ⟨y0, y1, y2, y3⟩ := box4 (unhide HX2b)
        obtain ⟨X, hX⟩ : ∃ X, X = W2.heap.size := ⟨_, rfl⟩
        have HXX := hide hX
        clear hX
        go_wp2_with (first
          | ((with_reducible refine wpList_alloc_cell (by rfl) (by rfl) (some 9) (by rfl) X (unhide HXX) ?_); intro W3 HX3 HB3 HS3; simp only [Act.put, List.setIfInBounds_toArray, List.set_cons_zero, List.set_cons_succ])
          | ((with_reducible refine wpList_store_cell (by rfl) (.tmp 9) (.tmp 28) (by rfl) X key val (by with_unfolding_all rfl) (by with_unfolding_all rfl) (unhide HX3) ?_); intro W3b HX3b HE3b; simp only [Act.put]; obtain ⟨c0, c1⟩ := box2 (unhide HX3b))
          | fail)
        have HB3b : Hid (Below W2.heap.size W2 W3b) := by rw [unhide HE3b, ← unhide HXX]; exact belowRow (unhide HB3) (Nat.le_refl _) _
        refine (unhide HCM _).mono ?_
        rintro e W4 ⟨rfl, hb4⟩
        have HB24 : Hid (Below W2.heap.size W2 W4) := (unhide HB3b).trans (hb4.mono (unhide HB3b).size)
        have HX4 := hide (box_below (unhide HX2) (unhide HB24))
        have HBL4 : Hid (Below N u W4) := (unhide HBL2).trans ((unhide HB24).mono (by have := (Array.getElem?_eq_some_iff.1 (unhide HX2)).1; omega))
        clear hb4 HX3 HB3 HS3 HX3b HE3b HB3b HB24 HX2 HX2b HBL2 HXX c0 c1 y0 y1 y2 y3 HCM H1
        go_wp2_with (first
          | ((with_reducible refine wpList_store_node (by rfl) (.tmp 6) (.tmp 32) (by rfl) (N + 1) false none 0 0 none 0 0 none 0 0 (by with_unfolding_all rfl) (by with_unfolding_all rfl) (unhide HX4) ?_); intro W3 HX3 HE3; simp only [Act.put])
          | fail)
        have HB3 : Hid (Below N u W3) := by rw [unhide HE3]; exact belowRow (unhide HBL4) (Nat.le_succ N) _
        go_wp2
        refine bodyPost_ret (results_cell_tmp rfl _ _ (N + 1) 26 #[.bool false, .slice none 0 0, .slice none 0 0, .slice none 0 0] (0, 0) _ rfl (unhide HX3) nodeUnd rfl nodeInfo) rfl ?_
        exact ⟨⟨none, 0, none, 0, none, 0⟩, rfl, zero_ow _ _, unhide HB3⟩
  · have hcl := Nd.refused_no hr
    have hR : n.ptR key val = zeroNd := by unfold Nd.ptR; rw [if_neg (fun hx => hr hx.1)]
    have hE : n.ptE key val = n.refused true := by unfold Nd.ptE; rw [if_pos hr]
    have hrv : n.refused true = if n.check ≠ 0 then n.check else 80 := by
      unfold Nd.refused
      rcases hcl with hc | ⟨hc, hl⟩
      · rw [if_pos hc, if_pos hc]
      · rw [if_neg (fun hx => hx hc), if_pos hl, if_neg (fun hx => hx hc)]
    rw [hE, hR, hrv]
    clear hE hR hrv hr HC HSTR hln
    generalize n.check = c at *
    generalize n.cells.length = cn at *
    generalize n.keys.length = kn at *
    generalize n.kids.length = gn at *
    generalize n.leaf = lf at *
    rcases hcl with hc | ⟨rfl, hl⟩
    · rw [if_pos hc]
      have hcb : (c == 0) = false := beq_false_of_ne hc
      go_enter Try.func37, Try.ntmps37
      go_wp2_with (first
        | ((with_reducible refine wpList_box_node (by rfl) (.tmp 0) (by rfl) (some 3) (by rfl) N (unhide HN) lf ca cn cc ka kn kc ga gn gc (by with_unfolding_all rfl) ?_); intro W0 HX0 HB0 HS0; simp only [Act.put, List.setIfInBounds_toArray, List.set_cons_zero, List.set_cons_succ])
        | ((with_reducible refine wpList_alloc_node (by rfl) (by rfl) (some 6) (by rfl) (N + 1) (unhide HS0).symm ?_); intro W1 HX1 HB1 HS1; simp only [Act.put, List.setIfInBounds_toArray, List.set_cons_zero, List.set_cons_succ]; have HX1b := hide (((unhide HB1).block N (Nat.lt_succ_self _)).trans (unhide HX0)); obtain ⟨y0, y1, y2, y3⟩ := box4 (unhide HX1b))
        | fail)
      have HBL : Hid (Below N u W1) := (unhide HB0).trans ((unhide HB1).mono (Nat.le_succ _))
      refine (unhide H1 _ (unhide HBL)).mono ?_
      rintro e W2 ⟨rfl, hb2⟩
      have HX2 := hide (box_below (unhide HX1) hb2)
      have HX2b := hide (box_below (unhide HX1b) hb2)
      have HBL2 : Hid (Below N u W2) := (unhide HBL).trans (hb2.mono (by rw [unhide HS1]; omega))
      clear hb2 y0 y1 y2 y3 HX0 HB0 HS0 HB1 HS1 HX1 HX1b HBL
      obtain ⟨y0, y1, y2, y3⟩ := box4 (unhide HX2b)
      go_wp2_with (first
        | ((with_reducible refine wpList_store_node (by rfl) (.tmp 6) (.tmp 17) (by rfl) (N + 1) false none 0 0 none 0 0 none 0 0 (by with_unfolding_all rfl) (by with_unfolding_all rfl) (unhide HX2) ?_); intro W3 HX3 HE3; simp only [Act.put])
        | fail)
      have HB3 : Hid (Below N u W3) := by rw [unhide HE3]; exact belowRow (unhide HBL2) (Nat.le_succ N) _
      go_wp2
      refine bodyPost_ret (results_cell_tmp rfl _ _ (N + 1) 26 #[.bool false, .slice none 0 0, .slice none 0 0, .slice none 0 0] (0, 0) _ rfl (unhide HX3) nodeUnd rfl nodeInfo) rfl ?_
      exact ⟨⟨none, 0, none, 0, none, 0⟩, rfl, zero_ow _ _, unhide HB3⟩
    · rw [if_neg (fun hx => hx rfl)]
      obtain rfl : lf = false := by cases lf; rfl; exact absurd rfl hl
      go_enter Try.func37, Try.ntmps37
      go_wp2_with (first
        | ((with_reducible refine wpList_box_node (by rfl) (.tmp 0) (by rfl) (some 3) (by rfl) N (unhide HN) false ca cn cc ka kn kc ga gn gc (by with_unfolding_all rfl) ?_); intro W0 HX0 HB0 HS0; simp only [Act.put, List.setIfInBounds_toArray, List.set_cons_zero, List.set_cons_succ])
        | ((with_reducible refine wpList_alloc_node (by rfl) (by rfl) (some 6) (by rfl) (N + 1) (unhide HS0).symm ?_); intro W1 HX1 HB1 HS1; simp only [Act.put, List.setIfInBounds_toArray, List.set_cons_zero, List.set_cons_succ]; have HX1b := hide (((unhide HB1).block N (Nat.lt_succ_self _)).trans (unhide HX0)); obtain ⟨y0, y1, y2, y3⟩ := box4 (unhide HX1b))
        | fail)
      have HBL : Hid (Below N u W1) := (unhide HB0).trans ((unhide HB1).mono (Nat.le_succ _))
      refine (unhide H1 _ (unhide HBL)).mono ?_
      rintro e W2 ⟨rfl, hb2⟩
      have HX2 := hide (box_below (unhide HX1) hb2)
      have HX2b := hide (box_below (unhide HX1b) hb2)
      have HBL2 : Hid (Below N u W2) := (unhide HBL).trans (hb2.mono (by rw [unhide HS1]; omega))
      clear hb2 y0 y1 y2 y3 HX0 HB0 HS0 HB1 HS1 HX1 HX1b HBL
      obtain ⟨y0, y1, y2, y3⟩ := box4 (unhide HX2b)
      go_wp2_with (first
        | ((with_reducible refine wpList_store_node (by rfl) (.tmp 6) (.tmp 22) (by rfl) (N + 1) false none 0 0 none 0 0 none 0 0 (by with_unfolding_all rfl) (by with_unfolding_all rfl) (unhide HX2) ?_); intro W3 HX3 HE3; simp only [Act.put])
        | fail)
      have HB3 : Hid (Below N u W3) := by rw [unhide HE3]; exact belowRow (unhide HBL2) (Nat.le_succ N) _
      go_wp2
      refine bodyPost_ret (results_cell_tmp rfl _ _ (N + 1) 26 #[.bool false, .slice none 0 0, .slice none 0 0, .slice none 0 0] (0, 0) _ rfl (unhide HX3) nodeUnd rfl nodeInfo) rfl ?_
      exact ⟨⟨none, 0, none, 0, none, 0⟩, rfl, zero_ow _ _, unhide HB3⟩
end Go.Proofs.Ytppmpomfihalfaa
