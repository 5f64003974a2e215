/- States: their values. -/
import Derived.Test.YtbahfpcfjhifbaaYn
import Derived.Test.YtbahfpcfjhifbaaShelf
import Derived.Sort.OwnSorted
import Derived.Sort.Grow
import Derived.Lib.OwnBridge
namespace Go.Proofs.Ytbahfpcfjhifbaa
open Go.RowKit Go.Lib Go.Sort
/-- texts of one's own -/
def OwnX (w : World) (B : Nat) (l : List (List UInt8)) (ao : Option Addr) (c : Nat) : Prop := w.ownsRow B 9 1 (.slice ao l.length c) l.length (l.map encStr)
theorem OwnX.below {w w' : World} {B : Nat} {l : List (List UInt8)} {ao : Option Addr} {c : Nat} (h : OwnX w B l ao c) (hb : Below w.heap.size w w') : OwnX w' B l ao c := own_below h hb
theorem str_parts : ∃ i, Try.prog.info? 9 = some i ∧ i.zero = some (.string ⟨#[]⟩) ∧ i.size = 1 ∧ i.bytes = 16 := by
  have h : (Try.prog.info? 9).map (fun i => (i.zero, i.size, i.bytes)) = some (some (.string ⟨#[]⟩), 1, 16) := by kernel_rfl
  obtain ⟨i, hi, h2⟩ := Option.map_eq_some_iff.1 h
  simp only [Prod.mk.injEq] at h2
  exact ⟨i, hi, h2⟩
theorem undX : Try.prog.underlying 27 = some (.slice 9) := by kernel_rfl
theorem enc_one (l : List (List UInt8)) : ∀ v ∈ l.map encStr, v.oneCell' = true := by
  intro v hv
  obtain ⟨x, _, rfl⟩ := List.mem_map.1 hv
  rfl
/-- a text more -/
theorem wpList_putX {ops : Array Oper} {rest : List Oper} {o : Oper} {a : Act} {w : World} {Q : Exit → Act → World → Prop} (hgd : o.guard = none) (s x : Operand) (ho : o.op = .call { callee := .builtin .append, args := #[s, x], argTypes := #[27, 27] }) (d : Option Tmp) (hd : o.dst = d)
    (B : Nat) (l : List (List UInt8)) (t : ByteArray) (n1 : Nat) (e1 : n1 = l.length) (ao : Option Addr) (c g : Nat) (hs : a.eval s = .slice ao n1 c) (hx : a.eval x = .slice (some ⟨g, 0, none⟩) 1 1) (hown : OwnX w B l ao c) (hm : w.cell? ⟨g, 0, none⟩ = some (.string t)) (hl : l.length ≤ 1000) (hB : B ≤ w.heap.size)
    (h : ∀ ao' n' c' w', Hid (n' = (l ++ [t.data.toList]).length) → Hid (OwnX w' B (l ++ [t.data.toList]) ao' c') → Hid (Below B w w') → wpList Try.prog ops Q rest (a.put d (.slice ao' n' c')) w') : wpList Try.prog ops Q (o :: rest) a w := by
  subst hd e1
  obtain ⟨i, hi, hz, hsz, hby⟩ := str_parts
  have e : encStr t.data.toList = .string t := by show Value.string ⟨t.data.toList.toArray⟩ = .string t; rw [Array.toArray_toList]
  obtain ⟨v', w', hr, h2, h3, h4⟩ := W.run_append_own' (P := Try.prog) w B 27 o.type 9 i _ 1 16 undX hi hz hsz hby rfl (by decide) (.slice ao l.length c) l.length (l.map encStr) hown ⟨g, 0, none⟩ 1 1 [encStr t.data.toList] rfl (fun j u hu => by
      cases j with
      | zero => simp only [List.getElem?_cons_zero, Option.some.injEq] at hu; rw [← hu, e, Addr.add_mid]; exact hm
      | succ j => simp at hu) (fun v hv => by rw [List.mem_singleton.1 hv]; rfl) (by unfold maxLen; omega) (by omega) hB
  obtain ⟨ao', c', rfl⟩ := W.owns_shape h2
  have hlen : l.length + 1 = (l ++ [t.data.toList]).length := by simp
  rw [hlen, show l.map encStr ++ [encStr t.data.toList] = (l ++ [t.data.toList]).map encStr by simp] at h2
  rw [hlen] at hr
  refine wpList_plain hgd fun K hK => ?_
  unfold Oper.wp execOp
  simp only [ho, resolve, invoke, builtin, Sem.run_bind, Sem.run_pure, Result.andThen_ok, List.map_toArray, List.map_cons, List.map_nil, hs, hx, hr]
  exact hK _ _ (h ao' _ c' w' rfl h2 ((Below.refl B w).grown h3 hB (fun k hk => (World.ownsRow.lt hown k hk).1)))
theorem cell_new (w : World) (t : ByteArray) (e : TypeId) : (w.alloc (.cells #[.string t] e)).cell? ⟨w.heap.size, 0, none⟩ = some (.string t) := by
  have h1 : (w.alloc (.cells #[.string t] e)).heap[w.heap.size]? = some (.cells #[.string t] e (0, 0)) := heap_alloc_new _ _
  simp only [World.cell?, h1]
  rfl
/-- the values that are there -/
def valsL (l : List Sb) : List (List UInt8) := (l.filter fun x => !x.gone).map fun x => x.val.data.toList
theorem valsL_take {l : List Sb} {k : Nat} (h : k < l.length) : valsL (l.take (k + 1)) = valsL (l.take k) ++ (if l[k].gone then [] else [l[k].val.data.toList]) := by
  unfold valsL
  rw [List.take_succ_eq_append_getElem h, List.filter_append, List.map_append]
  congr 1
  cases hg : l[k].gone <;> simp [hg]
theorem valsL_len (l : List Sb) : (valsL l).length ≤ l.length := by unfold valsL; rw [List.length_map]; exact List.length_filter_le _ _
/-- rising, each once -/
def srt (ss : List (List UInt8)) : List (List UInt8) := Lib.compact (ss.mergeSort fun x y => decide (x ≤ y))
open Classical in
noncomputable def valsT (s : St) : List (List UInt8) := if SOk s then srt (valsL s.sibs) else []
/-- what Sort leaves -/
theorem xSort (B : Nat) (ss : List (List UInt8)) (xo : Option Addr) (n c : Nat) (en : n = ss.length) (hl : ss.length ≤ 1000) (u w : World) (hB : B = u.heap.size) (hb : Below B u w) (h : OwnX w B ss xo c) : Calls Try.prog 37 #[.slice xo n c] w fun e w' => e = .returned (.tuple #[]) ∧ OwnX w' B (ss.mergeSort fun x y => decide (x ≤ y)) xo c ∧ Below B u w' := by
  subst en
  have hl2 : (ss.mergeSort fun x y => decide (x ≤ y)).length = ss.length := List.length_mergeSort ss
  cases xo with
  | none =>
    have h0 : ss.length = 0 := by have := (own_lies h).2.1; have := (own_lies h).2.2.1 rfl; omega
    have hc : c = 0 := (own_lies h).2.2.1 rfl
    obtain rfl := List.eq_nil_of_length_eq_zero h0
    subst hc
    refine (Try.slices_Sort_string_none none 0 w).mono ?_
    rintro e w' ⟨rfl, rfl⟩
    exact ⟨rfl, by simpa using h, hb⟩
  | some ad =>
    obtain ⟨g, cap, hv, hbg, hgl, hnc, hcm, hlen, hH⟩ := Lib.holds_of_ownsRow h (by simp)
    simp only [Value.slice.injEq, Option.some.injEq] at hv
    obtain ⟨rfl, _, rfl⟩ := hv
    refine (Try.slices_Sort_string g 0 c ss w hH hgl (by omega)).mono ?_
    rintro e w' ⟨rfl, nn, os, rfl⟩
    refine ⟨rfl, ?_, hb.grown (grownBy_sorted _) (by rw [hB]; exact hb.size) (fun j hj => by cases hj; exact hbg)⟩
    rcases h.2 with ⟨h0, _⟩ | ⟨g', cap', cur, hv, hbase, hbb, h1, h2, h3, h4⟩
    · cases h0
    · cases hv
      have := ownsRow_sorted (n := nn) (os := os) (ts := ss.mergeSort fun x y => decide (x ≤ y)) hl2 hbase hbb h1 h2 h3
      unfold OwnX
      rw [hl2]
      exact this
theorem xCompact (B : Nat) (ss : List (List UInt8)) (xo : Option Addr) (n c : Nat) (en : n = ss.length) (hl : ss.length ≤ 1000) (u w : World) (hb : Below B u w) (h : OwnX w B ss xo c) : Calls Try.prog 38 #[.slice xo n c] w fun e w' => ∃ m, e = .returned (.slice xo m c) ∧ m = (Lib.compact ss).length ∧ OwnX w' B (Lib.compact ss) xo c ∧ Below B u w' := by
  subst en
  cases xo with
  | none =>
    have h0 : ss.length = 0 := by have := (own_lies h).2.1; have := (own_lies h).2.2.1 rfl; omega
    obtain rfl := List.eq_nil_of_length_eq_zero h0
    refine (Try.slices_Compact_string_empty none c w).mono ?_
    rintro e w' ⟨rfl, rfl⟩
    exact ⟨0, rfl, rfl, h, hb⟩
  | some ad =>
    obtain ⟨g, cap, hv, hbg, hgl, hnc, hcm, hlen, hH⟩ := Lib.holds_of_ownsRow h (by simp)
    simp only [Value.slice.injEq, Option.some.injEq] at hv
    obtain ⟨rfl, _, rfl⟩ := hv
    refine (Try.slices_Compact_string g 0 c ss w hH (by omega) hnc).mono ?_
    rintro e w' ⟨rfl, q, rfl⟩
    have hle := Lib.compact_length_le ss
    refine ⟨_, rfl, rfl, ?_, Lib.below_putRow hb hbg⟩
    have := Lib.ownsRow_putRow (q := q) (k := (Lib.compact ss).length) (ys := Lib.compact ss ++ List.replicate (ss.length - (Lib.compact ss).length) []) h (by simp; omega) (by omega)
    rw [List.take_left] at this
    exact this
set_option maxRecDepth 100000 in
set_option maxHeartbeats 4000000 in
theorem dValues (s : St) (v : Sv) (u : World) (h : SAt u s v) : Calls Try.prog 14 #[v.v s.seen.length s.sibs.length] u fun e u' => ∃ xo n c, e = .returned (.slice xo n c) ∧ n = (valsT s).length ∧ OwnX u' u.heap.size (valsT s) xo c ∧ Below u.heap.size u u' := by
  obtain ⟨N, hN⟩ : ∃ N, N = u.heap.size := ⟨_, rfl⟩
  have HN := hide hN
  have HA := hide h
  rw [← hN]
  obtain ⟨n1, hn1⟩ : ∃ n, n = s.seen.length := ⟨_, rfl⟩
  obtain ⟨m1, hm1⟩ : ∃ n, n = s.sibs.length := ⟨_, rfl⟩
  have E2 := hide hm1
  rw [← hn1, ← hm1]
  have HV1 : Hid (∀ W : World, SAt W s v → Calls Try.prog 15 #[v.v n1 m1] W fun e W' => e = .returned (.bool (sokB s)) ∧ Below W.heap.size W W') := fun W h => by rw [hn1, hm1]; exact dValid' s v W h
  have HU : Hid (∀ W : World, Below N u W → Below u.heap.size u W) := fun W hW => by rw [← unhide HN]; exact hW
  by_cases os : SOk s
  · have HVT : Hid (valsT s = Lib.compact ((valsL s.sibs).mergeSort fun x y => decide (x ≤ y))) := by unfold valsT srt; rw [if_pos os]; exact rfl
    rw [sokB_true.2 os] at HV1
    have hm64 : (m1 : Int) ≤ 64 := by have := os.len; omega
    have HM64 : Hid (s.sibs.length ≤ 64) := os.len
    have HVL : Hid ((valsL s.sibs).length ≤ 64) := hide (Nat.le_trans (valsL_len _) os.len)
    generalize valsT s = VT at *
    clear hN hn1 hm1 h os
    go_enter Try.func14, Try.ntmps14
    go_wp2_with (first
      | ((with_reducible refine wpList_box_state (by rfl) (.tmp 0) (by rfl) (some 1) (by rfl) N (unhide HN) v n1 m1 (by with_unfolding_all rfl) ?_); intro W1 HX1 HB1 HS1; simp only [Act.put, List.setIfInBounds_toArray, List.set_cons_zero, List.set_cons_succ]; have HA1 := hide ((unhide HA).below (unhide HU _ (unhide HB1))); obtain ⟨x0, x1⟩ := st_cells (unhide HX1))
      | (go_at_call 15; refine (unhide HV1 W1 (unhide HA1)).mono ?_; rintro e W2 ⟨rfl, hb2⟩; have HB2 := hide hb2; clear hb2; have HA2 := hide ((unhide HA1).below (unhide HB2)); obtain ⟨x0, x1⟩ := st_cells (box_below (unhide HX1) (unhide HB2)))
      | fail)
    have HLA := hide (unhide HA2).sibs
    obtain ⟨B, hB⟩ : ∃ B, B = W2.heap.size := ⟨_, rfl⟩
    have HB := hide hB
    clear hB
    have HBU : Hid (∀ W : World, Below B W2 W → Below N u W) := fun W hW => (unhide HB1).trans (((unhide HB2).trans ((by rw [← unhide HB]; exact hW : Below W2.heap.size W2 W).mono (unhide HB2).size)).mono (by rw [unhide HS1]; omega))
    have HNB : Hid (N ≤ B) := by rw [unhide HB]; exact Nat.le_trans (by rw [unhide HS1]; omega) (unhide HB2).size
    have HSZ : Hid (∀ W : World, Below B W2 W → B ≤ W.heap.size) := fun W hW => by rw [unhide HB]; exact hW.size
    clear x0 x1 HA HA1 HB1 HB2 HX1 HS1 HA2 HV1
    go_loopw [3, 12] (fun s3 s12 wr => ∃ (k : Nat) (xo : Option Addr) (n c : Nat), k ≤ m1 ∧ s3 = .slice xo n c ∧ s12 = .int .i64 k ∧ Hid (n = (valsL (s.sibs.take k)).length ∧ OwnX wr B (valsL (s.sibs.take k)) xo c ∧ Below B W2 wr)) (fun _ s12 _ => m1 - (intOf s12).toNat)
    case atStart => exact ⟨0, none, 0, 0, Nat.zero_le _, rfl, rfl, rfl, World.ownsRow_nil _ _ _ _, by rw [unhide HB]; exact Below.refl _ _⟩
    case round =>
      obtain ⟨k, xo, n, c, hk, rfl, rfl, HI⟩ := hrel
      by_cases hlt : k < m1
      · have hki : (k : Int) < (m1 : Int) := by omega
        have hkl : k < s.sibs.length := by rw [← unhide E2]; exact hlt
        obtain ⟨g, o, hao, c1, c2, c3, c4⟩ := ((unhide HLA).lies.below (by rw [← unhide HB]; exact (unhide HI).2.2)).sb hkl
        have hix := ixS g o m1 v.bc k hlt
        obtain ⟨M, hM⟩ : ∃ M, M = wr.heap.size := ⟨_, rfl⟩
        have HM := hide hM
        clear hM
        have HT := hide (valsL_take hkl)
        have HLK : Hid ((valsL (s.sibs.take k)).length ≤ 1000) := hide (by have := valsL_len (s.sibs.take k); rw [List.length_take] at this; have := unhide HM64; omega)
        generalize s.sibs[k] = q at *
        have c1 : wr.cell? ⟨g, o + k * 4, none⟩ = some (.int .u32 (q.a : Int)) := c1
        have c2 : wr.cell? ⟨g, o + k * 4 + 1, none⟩ = some (.int .u64 (q.c : Int)) := c2
        have c3 : wr.cell? ⟨g, o + k * 4 + 2, none⟩ = some (.bool q.gone) := c3
        have c4 : wr.cell? ⟨g, o + k * 4 + 3, none⟩ = some (.string q.val) := c4
        generalize o + k * 4 = oo at *
        generalize valsL (s.sibs.take k) = lk at *
        rw [hao]
        obtain ⟨qa, qc, qg, qv⟩ := q
        cases qg
        · rw [if_neg (by simp)] at HT
          go_wp2_with (first
            | ((with_reducible refine wpList_alloc_sib (by rfl) (by rfl) (some 5) (by rfl) M (unhide HM) ?_); intro W7 HX7 HB7 HS7; simp only [Act.put, List.setIfInBounds_toArray, List.set_cons_zero, List.set_cons_succ])
            | ((with_reducible refine wpList_store_sib (by rfl) (.tmp 5) (.tmp 15) (by rfl) M ⟨qa, qc, false, qv⟩ (by with_unfolding_all rfl) (by with_unfolding_all rfl) (unhide HX7) ?_); intro W8 HX8 HE8; simp only [Act.put]; have HB8 : Hid (Below wr.heap.size wr W8) := (by rw [← unhide HM, unhide HE8]; exact belowRow (unhide HB7) (Nat.le_refl _) _); obtain ⟨y0, y1, y2, y3⟩ := sib_cells (unhide HX8))
            | (at_builtin; have hbe : Below W8.heap.size W8 (W8.alloc (.cells #[.string qv] 9)) := (Below.refl _ _).alloc (Nat.le_refl _) _; have HBA : Hid (Below B W2 (W8.alloc (.cells #[.string qv] 9))) := (unhide HI).2.2.trans (((unhide HB8).trans (hbe.mono (unhide HB8).size)).mono (unhide HSZ _ (unhide HI).2.2)); refine wpList_putX (by rfl) (.tmp 19) (.tmp 22) (by rfl) (some 23) (by rfl) B lk qv n (unhide HI).1 xo c W8.heap.size (by rfl) (by rfl) (((unhide HI).2.1.below (unhide HB8)).below hbe) (cell_new W8 qv 9) (unhide HLK) (unhide HSZ _ (unhide HBA)) ?_; intro x9 n9 c9 W9 HN9 HO9 HB9; simp only [Act.put, List.setIfInBounds_toArray, List.set_cons_zero, List.set_cons_succ]; have HBE : Hid (Below B W2 W9) := (unhide HBA).trans (unhide HB9); clear hbe)
            | fail)
          go_roundw
          case rel => exact ⟨k + 1, x9, n9, c9, by omega, rfl, by go_num, by rw [unhide HT]; exact unhide HN9, by rw [unhide HT]; exact unhide HO9, unhide HBE⟩
          case measure => simp [intOf]; omega
        · rw [if_pos rfl, List.append_nil] at HT
          go_wp2_with (first
            | ((with_reducible refine wpList_alloc_sib (by rfl) (by rfl) (some 5) (by rfl) M (unhide HM) ?_); intro W7 HX7 HB7 HS7; simp only [Act.put, List.setIfInBounds_toArray, List.set_cons_zero, List.set_cons_succ])
            | ((with_reducible refine wpList_store_sib (by rfl) (.tmp 5) (.tmp 15) (by rfl) M ⟨qa, qc, true, qv⟩ (by with_unfolding_all rfl) (by with_unfolding_all rfl) (unhide HX7) ?_); intro W8 HX8 HE8; simp only [Act.put]; have HB8 : Hid (Below wr.heap.size wr W8) := (by rw [← unhide HM, unhide HE8]; exact belowRow (unhide HB7) (Nat.le_refl _) _); obtain ⟨y0, y1, y2, y3⟩ := sib_cells (unhide HX8))
            | fail)
          go_roundw
          case rel => exact ⟨k + 1, xo, n, c, by omega, rfl, by go_num, by rw [unhide HT]; exact (unhide HI).1, by rw [unhide HT]; exact (unhide HI).2.1.below (unhide HB8), (unhide HI).2.2.trans ((unhide HB8).mono (unhide HSZ _ (unhide HI).2.2))⟩
          case measure => simp [intOf]; omega
      · obtain rfl : k = m1 := by omega
        have hki : ¬ (k : Int) < (k : Int) := by omega
        have HTK : Hid (s.sibs.take k = s.sibs) := List.take_of_length_le (by rw [unhide E2]; exact Nat.le_refl _)
        rw [unhide HTK] at HI
        generalize valsL s.sibs = ss at *
        have HSL : Hid (n = (ss.mergeSort fun x y => decide (x ≤ y)).length) := by rw [List.length_mergeSort]; exact (unhide HI).1
        have HLS : Hid ((ss.mergeSort fun x y => decide (x ≤ y)).length ≤ 1000) := hide (by rw [List.length_mergeSort]; have := unhide HVL; omega)
        have HXS := hide (xSort B ss xo n c (unhide HI).1 (by have := unhide HVL; omega) W2 wr (unhide HB) (unhide HI).2.2 (unhide HI).2.1)
        generalize (ss.mergeSort fun x y => decide (x ≤ y)) = ts at *
        go_wp2_with (first
          | (go_at_call 37; refine (unhide HXS).mono ?_; rintro e W5 ⟨rfl, h5, h6⟩; have HO5 := hide h5; have HB5 := hide h6; clear h5 h6)
          | (go_at_call 38; refine (xCompact B ts xo n c (unhide HSL) (unhide HLS) W2 W5 (unhide HB5) (unhide HO5)).mono ?_; rintro e W6 ⟨m6, rfl, h5, h6, h7⟩; have HO6 := hide h6; have HB6 := hide h7; have HN6 := hide h5; clear h5 h6 h7)
          | fail)
        go_ret
        exact ⟨xo, m6, c, rfl, by rw [unhide HVT]; exact unhide HN6, by rw [unhide HVT]; exact own_down (unhide HO6) (unhide HNB), unhide HBU _ (unhide HB6)⟩
  · have HVT : Hid (valsT s = []) := by unfold valsT; rw [if_neg os]; exact rfl
    rw [sokB_false.2 os] at HV1
    generalize valsT s = VT at *
    clear hN hn1 hm1 h os
    go_enter Try.func14, Try.ntmps14
    go_wp2_with (first
      | ((with_reducible refine wpList_box_state (by rfl) (.tmp 0) (by rfl) (some 1) (by rfl) N (unhide HN) v n1 m1 (by with_unfolding_all rfl) ?_); intro W1 HX1 HB1 HS1; simp only [Act.put, List.setIfInBounds_toArray, List.set_cons_zero, List.set_cons_succ]; have HA1 := hide ((unhide HA).below (unhide HU _ (unhide HB1))); obtain ⟨x0, x1⟩ := st_cells (unhide HX1))
      | (go_at_call 15; refine (unhide HV1 W1 (unhide HA1)).mono ?_; rintro e W2 ⟨rfl, hb2⟩; have HB2 := hide hb2; clear hb2)
      | fail)
    go_ret
    exact ⟨none, 0, 0, rfl, by rw [unhide HVT]; rfl, by rw [unhide HVT]; exact World.ownsRow_nil _ _ _ _, (unhide HB1).trans ((unhide HB2).mono (by rw [unhide HS1]; omega))⟩
end Go.Proofs.Ytbahfpcfjhifbaa
