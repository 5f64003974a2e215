/- Segments: the document's form; Form and Sum of both sides. Written by mksgh.py. -/
import Derived.Test.YtbahlfpcbplofaaSgg
namespace Go.Proofs.Ytbahlfpcbplofaa.S
open Go.RowKit Go.Lib
theorem catL (x y : List UInt8) (hx : x.length ≤ 8388608) (hy : y.length ≤ 8388608) (W : World) : (Op.stringOp .add ⟨x.toArray⟩ ⟨y.toArray⟩).run Try.prog W = .ok (.string ⟨(x ++ y).toArray⟩) W :=
  run_string_add_lists W x y (by omega) (by omega)
/-- a text's bytes behind a row of bytes -/
theorem brPutS {w u : World} {g cap : Nat} {bs : List UInt8} (h : D.BR w u g cap bs) (ty : TypeId) (q : List UInt8) (_ : 0 < q.length) (hby : bs.length + q.length ≤ 140737488355328) :
    ∃ g' cap' u', (Builtin.append_ #[52, 9] ty #[.slice (some ⟨g, 0, none⟩) bs.length cap, .string ⟨q.toArray⟩]).run Try.prog u = .ok (.slice (some ⟨g', 0, none⟩) (bs ++ q).length cap') u' ∧ D.BR w u' g' cap' (bs ++ q) := by
  obtain ⟨i0, hi, hz0, hz1, hz2⟩ := info_parts D.infoU8
  obtain ⟨cur, fr, h1, h2, h3, h4⟩ := h.row
  have hle := h.le
  have hqs : (⟨q.toArray⟩ : ByteArray).size = q.length := List.size_toArray
  have hsc : strCells ⟨q.toArray⟩ = Lib.byteCells q := by simp [strCells, Lib.byteCells]
  by_cases hroom : bs.length + q.length ≤ cap
  · have hfc := run_firstCells_string (P := Try.prog) u 1 ⟨q.toArray⟩
    rw [hqs, hsc] at hfc
    have hst := run_storeCells_cells (P := Try.prog) g (0 + bs.length) (Lib.byteCells q) 0 u (by
        intro j hj
        rw [D.byteCells_len] at hj
        have : bs.length + j < cur.size := by omega
        simp [World.cell?, h1, this]) (by
        intro j hj
        rw [D.byteCells_len] at hj
        simpa using h4 (bs.length + j) (by omega)) (D.byteCells_one q)
    simp only [Nat.add_zero, Nat.zero_add] at hst
    have hr : (Builtin.append_ #[52, 9] ty #[.slice (some ⟨g, 0, none⟩) bs.length cap, .string ⟨q.toArray⟩]).run Try.prog u = .ok (.slice (some ⟨g, 0, none⟩) (bs ++ q).length cap) (u.setCells g bs.length (Lib.byteCells q)) := by
      rw [List.length_append]
      simp [Builtin.append_, run_underlying Try.underlying52, run_underlying Try.underlying9, sizeOf, typeInfo, hi, hz1, Builtin.lenOf, hqs, hroom, hfc, Addr.add_lit, hst]
    have hcl0 : cur.toList.length = cap := (Array.length_toList).trans h2
    have hcl : bs.length + (Lib.byteCells q).length ≤ cur.toList.length := by rw [D.byteCells_len, hcl0]; exact hroom
    have h1' : u.heap[g]? = some (.cells cur.toList.toArray 5 fr) := by simpa using h1
    have hrow := D.heap_setCells (Lib.byteCells q) bs.length u cur.toList h1' hcl
    have hu : D.U1 u (u.setCells g bs.length (Lib.byteCells q)) g := D.U1.cells _ _ _ (D.U1.refl _ _)
    refine ⟨g, cap, _, hr, ⟨⟨_, fr, hrow, ?_, ?_, ?_⟩, h.ge, by simpa using hroom, h.max, h.bel.trans (hu.toBelow h.bel.size h.ge)⟩⟩
    · rw [List.size_toArray, D.splice_len _ _ _ hcl, hcl0]
    · have ht := D.splice_take cur.toList bs.length (Lib.byteCells q) hcl
      rw [D.byteCells_len] at ht
      rw [List.length_append, ht, h3]
      simp [Lib.byteCells]
    · intro j hj
      rw [World.frozen?_setCells]
      exact h4 j hj
  · have hr := run_append_grow_string (P := Try.prog) u 52 9 ty 5 i0 (.int .u8 0) Try.underlying52 Try.underlying9 hi hz0 ⟨g, 0, none⟩ bs.length cap (Lib.byteCells bs) (by rw [D.byteCells_len, hz1, Nat.mul_one])
      (fun j x hx => by
        have hj : j < bs.length := by have := (List.getElem?_eq_some_iff.1 hx).1; rwa [D.byteCells_len] at this
        rw [D.byteCells_at bs j hj] at hx
        rw [Addr.add_mid, Nat.zero_add, h.cell j hj, hx]) ⟨q.toArray⟩ (by rw [hqs]; omega) (by rw [hqs]; omega) (by rw [hz2, hqs]; exact growslice_fits (by omega) (by omega))
    rw [hqs, hsc] at hr
    have hge := grownCap_ge u (bs.length + q.length) cap 5
    have hcm : grownCap u (bs.length + q.length) cap 5 ≤ maxLen := grownCap_le_maxLen u (bs.length + q.length) cap 5 (by simp only [maxLen]; omega)
    rw [← List.length_append] at hr
    refine ⟨_, _, _, hr, ⟨⟨_, _, heap_alloc_new u.drew _, ?_, ?_, ?_⟩, h.bel.size, by rw [List.length_append]; exact hge, by rw [List.length_append]; exact hcm, ?_⟩⟩
    · have hz3 : (Value.int IntKind.u8 0).cells.size = 1 := rfl
      simp only [Array.size_append, List.size_toArray, size_zeroCells, hz3, D.byteCells_len, List.length_append]
      omega
    · simp only [Array.toList_append, List.append_assoc]
      rw [← List.append_assoc, show Lib.byteCells bs ++ Lib.byteCells q = Lib.byteCells (bs ++ q) by simp [Lib.byteCells]]
      exact (List.take_append_of_le_length (by rw [D.byteCells_len]; exact Nat.le_refl _)).trans (List.take_of_length_le (by rw [D.byteCells_len]; exact Nat.le_refl _))
    · intro j _
      unfold World.frozen?
      rw [show (u.drew.alloc _).heap[(⟨u.heap.size, j, none⟩ : Addr).block]? = _ from heap_alloc_new u.drew _]
      simp
    · exact ⟨h.bel.os, h.bel.tape, h.bel.output, by simpa using Nat.le_succ_of_le h.bel.size, fun k hk => (Below.heap_alloc u.drew _ k (Nat.lt_of_lt_of_le hk h.bel.size)).trans (h.bel.block k hk)⟩
theorem wpList_brPut {ops : Array Oper} {rest : List Oper} {o : Oper} {a : Act} {u : World} {Q : Exit → Act → World → Prop} (hgd : o.guard = none) (s x : Operand) (ho : o.op = .call { callee := .builtin .append, args := #[s, x], argTypes := #[52, 9] }) (d : Option Tmp) (hd : o.dst = d)
    (w : World) (g cap n : Nat) (bs q : List UInt8) (hn : n = bs.length) (h : D.BR w u g cap bs) (hs : a.eval s = .slice (some ⟨g, 0, none⟩) n cap) (hx : a.eval x = .string ⟨q.toArray⟩) (h0 : 0 < q.length) (hby : bs.length + q.length ≤ 140737488355328)
    (hk : ∀ g' n' cap' u', Hid (n' = (bs ++ q).length) → Hid (D.BR w u' g' cap' (bs ++ q)) → wpList Try.prog ops Q rest (a.put d (.slice (some ⟨g', 0, none⟩) n' cap')) u') : wpList Try.prog ops Q (o :: rest) a u := by
  subst hd hn
  refine wpList_plain hgd fun K hK => ?_
  obtain ⟨g', cap', u', hr, h2⟩ := brPutS h o.type q h0 hby
  unfold Oper.wp execOp
  simp only [ho, resolve, invoke, builtin, Sem.run_bind, Sem.run_pure, Result.andThen_ok, List.map_toArray, List.map_cons, List.map_nil, hs, hx, hr]
  exact hK _ _ (hk g' _ cap' u' rfl h2)
theorem br_string {w u : World} {g cap n : Nat} {bs : List UInt8} (h : D.BR w u g cap bs) (hn : n = bs.length) : (convert 52 9 (.slice (some ⟨g, 0, none⟩) n cap)).run Try.prog u = .ok (.string ⟨bs.toArray⟩) u := by
  subst hn
  refine run_convert_bytes_back u 52 9 5 ⟨g, 0, none⟩ cap bs Try.underlying52 Try.underlying5 Try.underlying9 fun j hj => ?_
  rw [Addr.add_mid, Nat.zero_add]
  exact h.cell j hj
theorem wpList_conv {ops : Array Oper} {rest : List Oper} {o : Oper} {a : Act} {u : World} {Q : Exit → Act → World → Prop} (hgd : o.guard = none) (x : Operand) (ho : o.op = .convert 9 52 x) (d : Option Tmp) (hd : o.dst = d) (q : List UInt8) (hx : a.eval x = .string ⟨q.toArray⟩) (hs : q.length ≤ 140737488355328)
    (hk : ∀ g n cap u', Hid (n = q.length) → Hid (D.BR u u' g cap q) → wpList Try.prog ops Q rest (a.put d (.slice (some ⟨g, 0, none⟩) n cap)) u') : wpList Try.prog ops Q (o :: rest) a u := by
  subst hd
  have hqs : (⟨q.toArray⟩ : ByteArray).size = q.length := List.size_toArray
  obtain ⟨g, cap, u', hr, hb⟩ := D.conv_br u ⟨q.toArray⟩ (by rw [hqs]; exact hs)
  refine wpList_plain hgd fun K hK => ?_
  unfold Oper.wp execOp
  simp only [ho, Sem.run_bind, Sem.run_pure, Result.andThen_ok, hx, hr]
  exact hK _ _ (hk g _ cap u' hqs hb)
theorem BR.up {w u v : World} {g cap : Nat} {bs : List UInt8} (h : D.BR u v g cap bs) (hb : Below w.heap.size w u) : D.BR w v g cap bs := ⟨h.row, Nat.le_trans hb.size h.ge, h.le, h.max, hb.trans (h.bel.mono hb.size)⟩
set_option maxRecDepth 100000 in
set_option maxHeartbeats 4000000 in
theorem qForm0 (x : Nat) (hx : x < 4096) (l : List En) (ao : Option Addr) (n c : Nat) (u : World) (h : El u l ao n c) (hs : Short l) (hm : n ≤ 1099511627776) : Calls Try.prog 63 #[.int .i64 x, .slice ao n c] u fun e u' => e = .returned (.string (formB x l)) ∧ Below u.heap.size u u' := by
  have HQ := hide h
  have HS := hide hs
  have HLN := hide h.hn
  have hni : (n : Int) ≤ 1099511627776 := by omega
  have hxi : (x : Int) < 4096 := by omega
  have HFX := hide fun G : World => W.mwFixed x 2 G (by omega) (by decide)
  have HUN := hide fun G : World => W.mwUint n G (by omega)
  have HTX : Hid (∀ (t : ByteArray) (G : World), t.size ≤ 1048576 → Calls Try.prog 89 #[.string t] G fun e w' => e = .returned (.string ⟨(textB t).toArray⟩) ∧ Below G.heap.size G w') := fun t G ht => W.mwText t G ht
  have hcat1 := catL [83] (W.fixB x 2) (by decide) (by rw [W.fixB_length]; decide)
  have hcat2 := catL ([83] ++ W.fixB x 2) (W.uintB 9 n) (by rw [List.length_append, W.fixB_length]; decide) (by have := uintB_len n; omega)
  obtain ⟨P, hP⟩ : ∃ P, P = [83] ++ W.fixB x 2 ++ W.uintB 9 n := ⟨_, rfl⟩
  have HPL : P.length ≤ 13 := by
    rw [hP]
    have := uintB_len n
    simp only [List.length_append, W.fixB_length, List.length_singleton]
    omega
  have HPF : Hid (formB x l = ⟨(P ++ ensB l).toArray⟩) := by
    rw [hP]
    unfold formB formL
    rw [← h.hn]
    show (⟨_⟩ : ByteArray) = ⟨_⟩
    simp [List.append_assoc]
  rw [← hP] at hcat2
  have HTK : Hid (∀ k (hk : k < l.length), ensB (l.take (k + 1)) = ensB (l.take k) ++ (textB l[k].1 ++ textB l[k].2)) := fun k hk => ensB_take l hk
  have HLEN : Hid (∀ k, (P ++ ensB (l.take k)).length ≤ 92358976734184) := fun k => by
    have h1 := ensB_len _ (hs.take k)
    have h2 : (l.take k).length ≤ l.length := by rw [List.length_take]; omega
    have h3 := unhide HLN
    rw [List.length_append]
    omega
  have HP13 := hide HPL
  generalize W.fixB x 2 = T1 at *
  generalize W.uintB 9 n = T2 at *
  generalize [83] ++ T1 = T0 at *
  have hc1 : ∀ W : World, (Op.stringOp .add ⟨#[83]⟩ ⟨T1.toArray⟩).run Try.prog W = .ok (.string ⟨T0.toArray⟩) W := hcat1
  clear h hs hm hP hcat1 hx HPL
  go_enter Try.func63, Try.ntmps63
  go_wp2_with (first
    | (go_at_call 54; refine (unhide HFX u).mono ?_; rintro e W1 ⟨rfl, hb⟩; have H1 := hide hb; clear hb)
    | (go_at_call 88; refine (unhide HUN W1).mono ?_; rintro e W2 ⟨rfl, hb⟩; have H2 : Hid (Below u.heap.size u W2) := (unhide H1).trans (hb.mono (unhide H1).size); clear hb H1)
    | ((with_reducible refine wpList_conv (by rfl) (.tmp 15) (by rfl) (some 16) (by rfl) P (by with_unfolding_all rfl) (by have := unhide HP13; omega) ?_); intro g0 n0 cap0 W3 HN0 HB0; simp only [Act.put, List.setIfInBounds_toArray, List.set_cons_zero, List.set_cons_succ]; have H3 : Hid (n0 = (P ++ ensB (l.take 0)).length ∧ D.BR u W3 g0 cap0 (P ++ ensB (l.take 0))) := (by rw [List.take_zero, show ensB [] = [] from rfl, List.append_nil]; exact ⟨unhide HN0, BR.up (unhide HB0) (unhide H2)⟩); clear HN0 HB0 H2)
    | fail)
  go_loopw [5, 6] (fun b i wr => ∃ (k g n' cap : Nat), k ≤ n ∧ i = .int .i64 k ∧ b = .slice (some ⟨g, 0, none⟩) n' cap ∧ Hid (n' = (P ++ ensB (l.take k)).length ∧ D.BR u wr g cap (P ++ ensB (l.take k)))) (fun _ i _ => n - (intOf i).toNat)
  case atStart => exact ⟨0, g0, n0, cap0, Nat.zero_le _, rfl, rfl, unhide H3⟩
  case round =>
    clear H3
    obtain ⟨k, g1, n1, cap1, hk, rfl, rfl, HI⟩ := hrel
    by_cases hlt : k < n
    · have hki : (k : Int) < (n : Int) := by omega
      have hkl : k < l.length := by rw [← unhide HLN]; exact hlt
      obtain ⟨g, o, hao, -, -⟩ := (unhide HQ).en hkl
      subst hao
      have HCE : Hid (∀ W : World, Below u.heap.size u W → W.cell? ⟨g, o + k * 2, none⟩ = some (.string l[k].1) ∧ W.cell? ⟨g, o + k * 2 + 1, none⟩ = some (.string l[k].2)) := fun W hW => by
        obtain ⟨g', o', hao', c1, c2⟩ := (unhide HQ).en hkl
        cases hao'
        exact ⟨cell_keep hW c1, cell_keep hW c2⟩
      have hix := ixE g o n c k hlt
      have HTQ := hide (unhide HTK k hkl)
      have HSQ := hide (unhide HS _ (List.getElem_mem hkl))
      have hbl := unhide HLEN k
      generalize l[k] = q at *
      obtain ⟨qk, qs⟩ := q
      have HCE : Hid (∀ W : World, Below u.heap.size u W → W.cell? ⟨g, o + k * 2, none⟩ = some (.string qk) ∧ W.cell? ⟨g, o + k * 2 + 1, none⟩ = some (.string qs)) := HCE
      have HTQ : Hid (ensB (l.take (k + 1)) = ensB (l.take k) ++ (textB qk ++ textB qs)) := HTQ
      have hq1 : qk.size ≤ 32 := (unhide HSQ).1
      have hq2 : qs.size ≤ 32 := (unhide HSQ).2
      generalize o + k * 2 = oo at *
      have hx1 := hide (fun G : World => unhide HTX qk G (by omega))
      have hx2 := hide (fun G : World => unhide HTX qs G (by omega))
      have h1 : (textB qk).length ≤ 42 ∧ 0 < (textB qk).length := by
        unfold textB
        have h3 := uintB_len qk.size
        have h4 := (W.uintB_length 9 qk.size).1
        have h5 : qk.data.toList.length = qk.size := rfl
        rw [List.length_append, h5]; omega
      have h2 : (textB qs).length ≤ 42 ∧ 0 < (textB qs).length := by
        unfold textB
        have h3 := uintB_len qs.size
        have h4 := (W.uintB_length 9 qs.size).1
        have h5 : qs.data.toList.length = qs.size := rfl
        rw [List.length_append, h5]; omega
      have HBS : Hid (P ++ ensB (l.take k) ++ textB qk ++ textB qs = P ++ ensB (l.take (k + 1))) := by rw [unhide HTQ]; simp only [List.append_assoc]; exact trivial
      generalize textB qk = T3 at *
      generalize textB qs = T4 at *
      generalize P ++ ensB (l.take k) = bs at *
      have hl2 : (bs ++ T3).length + T4.length ≤ 140737488355328 := by rw [List.length_append]; omega
      have hl1 : bs.length + T3.length ≤ 140737488355328 := by omega
      have HL1 := hide hl1
      have HL2 := hide hl2
      have HP3 := hide h1.2
      have HP4 := hide h2.2
      obtain ⟨c1, c2⟩ := unhide HCE _ (unhide HI).2.bel
      clear hbl HTQ HSQ hl1 hl2 h1 h2 hq1 hq2
      go_wp2_with (first
        | (go_at_call_of 89 (Value.string qk); refine (unhide hx1 wr).mono ?_; rintro e W1 ⟨rfl, hb⟩; have H1 : Hid (D.BR u W1 g1 cap1 bs) := (unhide HI).2.below hb; clear hb c1 c2)
        | (at_builtin; (with_reducible refine wpList_brPut (by rfl) (.tmp 23) (.tmp 29) (by rfl) (some 30) (by rfl) u g1 cap1 n1 bs T3 (unhide HI).1 (unhide H1) (by with_unfolding_all rfl) (by with_unfolding_all rfl) (unhide HP3) (unhide HL1) ?_); intro g2 n2 cap2 W2 HN2 HB2; simp only [Act.put, List.setIfInBounds_toArray, List.set_cons_zero, List.set_cons_succ]; obtain ⟨c1, c2⟩ := unhide HCE _ (unhide HB2).bel)
        | (go_at_call 89; refine (unhide hx2 W2).mono ?_; rintro e W3 ⟨rfl, hb⟩; have H3 : Hid (D.BR u W3 g2 cap2 (bs ++ T3)) := (unhide HB2).below hb; clear hb c1 c2)
        | (at_builtin; (with_reducible refine wpList_brPut (by rfl) (.tmp 31) (.tmp 37) (by rfl) (some 38) (by rfl) u g2 cap2 n2 (bs ++ T3) T4 (unhide HN2) (unhide H3) (by with_unfolding_all rfl) (by with_unfolding_all rfl) (unhide HP4) (unhide HL2) ?_); intro g4 n4 cap4 W4 HN4 HB4; simp only [Act.put, List.setIfInBounds_toArray, List.set_cons_zero, List.set_cons_succ])
        | fail)
      go_wp2
      go_roundw
      case rel => exact ⟨k + 1, g4, n4, cap4, by omega, by go_num, rfl, by rw [← unhide HBS]; exact ⟨unhide HN4, unhide HB4⟩⟩
      case measure => simp [intOf]; omega
    · obtain rfl : k = n := by omega
      have hki : ¬ (k : Int) < (k : Int) := by omega
      have HTL : Hid (l.take k = l) := List.take_of_length_le (by rw [unhide HLN]; exact Nat.le_refl _)
      have hrun := br_string (unhide HI).2 (unhide HI).1
      go_wp2
      go_ret
      refine ⟨?_, (unhide HI).2.bel⟩
      rw [unhide HTL, unhide HPF]
      rfl
end Go.Proofs.Ytbahlfpcbplofaa.S
