/- The document's disk: what is pending lands. -/
import Derived.Test.YtfdibmbffmgikaaVb
namespace Go.Proofs.Ytfdibmbffmgikaa
open Go.RowKit Go.Lib

theorem zRefW : ((Try.prog.info? 95).bind (·.zero)).map (·.cells) = some #[.int .i64 0, .string .empty] := by kernel_rfl
theorem refWInfo : (Try.prog.info? 95).map (·.size) = some 2 := by kernel_rfl
theorem refWUnd : Try.prog.underlying 95 = some (.struct (match Try.prog.underlying 95 with | some (.struct fs) => fs | _ => #[])) := by kernel_rfl
theorem ext_to (l : List UInt8) (m : Nat) : (⟨l.toArray⟩ : ByteArray).extract 0 m = ⟨(l.take m).toArray⟩ := by
  apply ByteArray.ext
  rw [ByteArray.data_extract]
  simp
theorem ext_from (l : List UInt8) (m : Nat) (n : Nat) (hn : n = l.length) : (⟨l.toArray⟩ : ByteArray).extract m n = ⟨(l.drop m).toArray⟩ := by
  apply ByteArray.ext
  rw [ByteArray.data_extract]
  simp [hn]
  exact List.take_of_length_le (by simp)
theorem ba_append (a b : List UInt8) : (⟨(a ++ b).toArray⟩ : ByteArray) = ⟨a.toArray⟩ ++ ⟨b.toArray⟩ := by
  apply ByteArray.ext
  simp
theorem sl_to (l : List UInt8) (m : Nat) (hm : m ≤ l.length) (W : World) : (Instr.sliceAt 9 (.string ⟨l.toArray⟩) none (some (.int .i64 (m : Int))) none).run Try.prog W = .ok (.string ⟨(l.take m).toArray⟩) W := by
  rw [run_sliceAt_string W 9 _ _ _ _ Try.underlying9, run_slice_string_h W 9 _ Try.underlying9 .i64 _ (by omega) (by rw [size_mk]; omega), Int.toNat_natCast, ext_to]
theorem sl_from (l : List UInt8) (m : Nat) (hm : m ≤ l.length) (W : World) : (Instr.sliceAt 9 (.string ⟨l.toArray⟩) (some (.int .i64 (m : Int))) none none).run Try.prog W = .ok (.string ⟨(l.drop m).toArray⟩) W := by
  rw [run_sliceAt_string W 9 _ _ _ _ Try.underlying9, run_slice_string_l W 9 _ Try.underlying9 .i64 _ (by omega) (by rw [size_mk]; omega), Int.toNat_natCast, ext_from l m _ (size_mk l)]
def lshare (all : Bool) (ks : List Bool) (torn cut : Int) (i : Nat) : Nat := if all then 1024 else share ks torn cut i
theorem lshare_le (all : Bool) (ks : List Bool) (torn cut : Int) (i : Nat) : lshare all ks torn cut i ≤ 1024 := by
  unfold lshare
  split
  · exact Nat.le_refl _
  · exact share_le _ _ _ _
section
variable {B : Nat} {u u' : World} {M : Nat} {v1 v2 : Value} {d : Dk} {F : List Nat}
theorem RkX.land {s : Nat → Nat} {k gl cl : Nat} (h : RkX B u M (.slice (some ⟨gl, 0, none⟩) d.lies.length cl) v2 (d.mid s k)) (hk : k < d.pend.length) (hok : d.Ok) :
    RkX B (u.setCell ⟨gl, d.pend[k].1, none⟩ (str (d.pend[k].2.take (s k) ++ ((d.landed s k).getD d.pend[k].1 []).drop (s k)))) M (.slice (some ⟨gl, 0, none⟩) d.lies.length cl) v2 (d.mid s (k + 1)) := by
  have hs : (d.mid s (k + 1)).lies = (d.landed s k).set d.pend[k].1 (d.pend[k].2.take (s k) ++ ((d.landed s k).getD d.pend[k].1 []).drop (s k)) := by
    show d.landed s (k + 1) = _
    simp only [Dk.landed]
    rw [List.getD_eq_getElem?_getD, List.getElem?_eq_getElem hk, Option.getD_some]
  have hg : gl ≠ M := fun e => h.m1 (by rw [e]; rfl)
  have ho : ∀ q, q ≠ gl → (u.setCell ⟨gl, d.pend[k].1, none⟩ (str (d.pend[k].2.take (s k) ++ ((d.landed s k).getD d.pend[k].1 []).drop (s k)))).heap[q]? = u.heap[q]? := fun q hq => Deep.blk_setCell_other u ⟨gl, d.pend[k].1, none⟩ _ q hq
  refine ⟨(ho M (Ne.symm hg)).trans h.blk, ?_, ownsRow_keep h.pend fun q hq => ho q (fun e => h.m12 gl rfl (e ▸ hq)), h.bM, h.m1, h.m2, h.m12, hok.mid s (k + 1) hk⟩
  have hl := h.lies
  have e1 : (d.mid s k).lies.length = d.lies.length := d.landed_length s k
  have e2 : (d.mid s (k + 1)).lies.length = d.lies.length := d.landed_length s (k + 1)
  rw [e1] at hl
  rw [e2, hs, List.map_set]
  exact ownsRow_set hl _ _
theorem RkX.landed {s : Nat → Nat} (h : RkX B u M v1 v2 (d.mid s d.pend.length)) : RkX B (u.setCell ⟨M, 1, none⟩ (.slice none 0 0)) M v1 (.slice none 0 0) (d.settle s) := by
  have ho : ∀ k, k ≠ M → (u.setCell ⟨M, 1, none⟩ (.slice none 0 0)).heap[k]? = u.heap[k]? := fun k hk => Deep.blk_setCell_other u ⟨M, 1, none⟩ _ k hk
  have hk := h.ok
  exact ⟨by rw [heapCell_same h.blk]; rfl, ownsRow_keep h.lies fun k hk => ho k (fun e => h.m1 (e ▸ hk)), World.ownsRow_nil _ _ _ _, h.bM, h.m1, by simp [Value.ownBlock], fun k _ => by simp [Value.ownBlock], ⟨hk.pos, hk.max, hk.len, (fun _ hq => by cases hq), hk.f0, hk.f1⟩⟩
set_option maxRecDepth 100000 in
set_option maxHeartbeats 16000000 in
theorem rLand (h : RkX B u M v1 v2 d) (hm : d.pend.length ≤ 1000000000) (kao : Option Addr) (ks : List Bool) (kc : Nat) (torn cut : Int) (hk : Ks u kao ks (M :: v1.ownBlock.toList)) (all : Bool) :
    Calls Try.prog 52 #[.pointer (some ⟨M, 0, none⟩), .agg (fateV kao ks.length kc torn cut), .bool all] u fun e u' => e = .returned (.tuple #[]) ∧ RkX B u' M v1 (.slice none 0 0) (d.settle (lshare all ks torn cut)) ∧ UpS u u' (M :: v1.ownBlock.toList) := by
  obtain ⟨N, hN⟩ : ∃ N, N = u.heap.size := ⟨_, rfl⟩
  have HN := hide hN
  obtain ⟨gl, cl, _, hv1, _⟩ := ownsRow_cell h.lies 0 h.ok.pos
  obtain ⟨P, hP⟩ : ∃ P, P = d.lies.length := ⟨_, rfl⟩
  have HP := hide hP
  have HV1 := hide hv1
  rw [← hP] at hv1
  subst hv1
  obtain ⟨ao2, c2', hv2⟩ := ownsRow_len h.pend
  obtain ⟨q, hq⟩ : ∃ q, q = d.pend.length := ⟨_, rfl⟩
  have HQ := hide hq
  rw [← hq] at hv2
  subst hv2
  have hqi : (q : Int) ≤ 1000000000 := by omega
  obtain ⟨kn, hkn⟩ : ∃ z, z = ks.length := ⟨_, rfl⟩
  have HKN := hide hkn
  have HH := hide h
  have HK := hide hk
  obtain ⟨FV, hFV⟩ : ∃ z, z = fateV kao kn kc torn cut := ⟨_, rfl⟩
  have HFV := hide hFV
  rw [← hkn, ← hFV]
  clear h hN hP hq hm hk hkn hFV
  go_enter Try.func52, Try.ntmps52
  go_wp2_with (refine wpList_box_row (by rfl) 27 (.tmp 1) (by rfl) (some 4) (by rfl) N (by exact (unhide HN).symm) FV (by rfl) ?_; intro W0 HX0 HB0 HS0; simp only [Act.put, List.setIfInBounds_toArray, List.set_cons_zero, List.set_cons_succ])
  have hb0 : Below u.heap.size u W0 := by rw [← unhide HN]; exact unhide HB0
  have HI0 : Hid (RkX B W0 M (.slice (some ⟨gl, 0, none⟩) P cl) (.slice ao2 q c2') (d.mid (lshare all ks torn cut) 0) ∧ UpS u W0 [M, gl] ∧ W0.heap[N]? = some (.cells FV 27 (0, 0))) := ⟨(unhide HH).below hb0, UpS.ofBelow _ hb0, unhide HX0⟩
  clear hb0 HX0 HB0 HS0
  go_loopw [6] (fun vi wr => ∃ i : Nat, i ≤ q ∧ vi = .int .i64 i ∧ Hid (RkX B wr M (.slice (some ⟨gl, 0, none⟩) P cl) (.slice ao2 q c2') (d.mid (lshare all ks torn cut) i) ∧ UpS u wr [M, gl] ∧ wr.heap[N]? = some (.cells FV 27 (0, 0)))) (fun vi _ => q - (intOf vi).toNat)
  case atStart => exact ⟨0, Nat.zero_le _, rfl, HI0⟩
  case round =>
    clear HI0
    obtain ⟨i, hi, rfl, HI⟩ := hrel
    by_cases hlt : i < q
    · have hii : (i : Int) < (q : Int) := by omega
      have hil : i < d.pend.length := by rw [← unhide HQ]; exact hlt
      obtain ⟨hR, hU, hX⟩ := unhide HI
      obtain ⟨g2, c3, hv2, eN, eS⟩ := own_cells hR.pend i hil
      have hmq : (d.mid (lshare all ks torn cut) i).pend.length = q := (unhide HQ).symm
      rw [hmq] at hv2
      obtain ⟨rfl, rfl⟩ : ao2 = some ⟨g2, 0, none⟩ ∧ c2' = c3 := by simpa using hv2
      have d1 := hR.c1
      have hix2 := ixRefW g2 q c2' i hlt
      obtain ⟨pn, hpn⟩ : ∃ z, z = d.pend[i].1 := ⟨_, rfl⟩
      obtain ⟨SP, hSP⟩ : ∃ z : ByteArray, z = ⟨(d.pend[i].2).toArray⟩ := ⟨_, rfl⟩
      have eN' : wr.cell? ⟨g2, i * 2, none⟩ = some (.int .i64 (pn : Int)) := by rw [hpn]; exact eN
      have eS' : wr.cell? ⟨g2, i * 2 + 1, none⟩ = some (.string SP) := by rw [hSP]; exact eS
      have hpg := (unhide HH).ok.pg d.pend[i] (List.getElem_mem hil)
      have hpP : pn < P := by rw [hpn, unhide HP]; exact hpg.1
      have hpPi : (pn : Int) < (P : Int) := by omega
      have hix := ixTexts gl 0 P cl pn hpP
      rw [Nat.zero_add] at hix
      obtain ⟨sn, hsn⟩ : ∃ z, z = lshare all ks torn cut i := ⟨_, rfl⟩
      have hsl : sn ≤ 1024 := by rw [hsn]; exact lshare_le _ _ _ _ _
      obtain ⟨pl, hpl⟩ : ∃ z, z = (d.landed (lshare all ks torn cut) i).getD pn [] := ⟨_, rfl⟩
      have hll : (d.landed (lshare all ks torn cut) i).length = P := by rw [unhide HP]; exact d.landed_length _ _
      have hpll : pl.length = 1024 := by rw [hpl]; exact (unhide HH).ok.landed_len _ i (by omega) _ (getD_mem _ _ (by rw [hll]; exact hpP) _)
      obtain ⟨gl', cl', hvl, eL, eZ⟩ := hR.lie_at pn (by show pn < (d.landed (lshare all ks torn cut) i).length; rw [hll]; exact hpP)
      have hmp : (d.mid (lshare all ks torn cut) i).lies.length = P := hll
      rw [hmp] at hvl
      obtain ⟨rfl, rfl⟩ : gl = gl' ∧ cl = cl' := by simpa using hvl
      obtain ⟨SL, hSL⟩ : ∃ z : ByteArray, z = ⟨pl.toArray⟩ := ⟨_, rfl⟩
      have eL' : wr.cell? ⟨gl, pn, none⟩ = some (.string SL) := by rw [eL, hSL, hpl]; rfl
      have hs1 : ∀ W, (Instr.sliceAt 9 (.string SP) none (some (.int .i64 (sn : Int))) none).run Try.prog W = .ok (.string ⟨(d.pend[i].2.take sn).toArray⟩) W := by rw [hSP]; exact sl_to _ sn (by rw [hpg.2]; exact hsl)
      have hs2 : ∀ W, (Instr.sliceAt 9 (.string SL) (some (.int .i64 (sn : Int))) none none).run Try.prog W = .ok (.string ⟨(pl.drop sn).toArray⟩) W := by rw [hSL]; exact sl_from _ sn (by rw [hpll]; exact hsl)
      have hsum : (⟨(d.pend[i].2.take sn).toArray⟩ : ByteArray).size + (⟨(pl.drop sn).toArray⟩ : ByteArray).size ≤ 9223372036854775807 := by rw [size_mk, size_mk, List.length_take, List.length_drop, hpg.2, hpll]; omega
      have hstr : str (d.pend[i].2.take sn ++ pl.drop sn) = .string ((⟨(d.pend[i].2.take sn).toArray⟩ : ByteArray) ++ ⟨(pl.drop sn).toArray⟩) := by rw [str, ba_append]
      obtain ⟨N7, hN7⟩ : ∃ z, z = wr.heap.size := ⟨_, rfl⟩
      have HN7 := hide hN7
      obtain ⟨C, hC⟩ : ∃ C : Array Value, C = #[.int .i64 (pn : Int), .string SP] := ⟨_, rfl⟩
      have HC1 : Hid (C.size = 2 ∧ C.all (·.oneCell') = true ∧ C = #[.int .i64 (pn : Int), .string SP]) := ⟨by rw [hC]; rfl, by rw [hC]; simp [Value.oneCell'], hC⟩
      have HR2 : Hid (wr.rangeAt g2 (i * 2) C.toList) := fun j v hv => by
        rw [hC] at hv
        match j, hv with
        | 0, hv => cases hv; exact eN'
        | 1, hv => cases hv; exact eS'
      have hglM : gl ≠ M := fun e => hR.m1 (by rw [e]; rfl)
      have HKC : Hid (∀ W : World, Below N7 wr W → ∀ (hi : i < ks.length), ∃ g o, kao = some ⟨g, o, none⟩ ∧ W.cell? ⟨g, o + i, none⟩ = some (.bool ks[i])) := fun W hW hik => by
        obtain ⟨g, o, h1, h2, h3⟩ := unhide HK (by omega)
        have e1 := hU.cell (p := ⟨g, o + i, none⟩) (World.block_lt_of_cell? u _ (h3 i hik)) (by simpa [Value.ownBlock] using h2)
        rw [h3 i hik] at e1
        exact ⟨g, o, h1, (hW.cell (by rw [hN7]; exact World.block_lt_of_cell? wr _ e1)).trans e1⟩
      have HGO : Hid (∀ W : World, W.heap[N7]? = some (.cells C 95 (0, 0)) → Below N7 wr W →
          Hid (W.drew.cell? ⟨M, 0, none⟩ = some (.slice (some ⟨gl, 0, none⟩) P cl) ∧ W.drew.cell? ⟨N7, 0, none⟩ = some (.int .i64 (pn : Int)) ∧ W.drew.cell? ⟨N7, 1, none⟩ = some (.string SP) ∧ W.drew.cell? ⟨gl, pn, none⟩ = some (.string SL) ∧ W.drew.frozen? ⟨gl, pn, none⟩ = false) ∧
          Hid (RkX B (W.setCell ⟨gl, pn, none⟩ (.string ((⟨(d.pend[i].2.take sn).toArray⟩ : ByteArray) ++ ⟨(pl.drop sn).toArray⟩))) M (.slice (some ⟨gl, 0, none⟩) P cl) (.slice (some ⟨g2, 0, none⟩) q c2') (d.mid (lshare all ks torn cut) (i + 1)) ∧ UpS u (W.setCell ⟨gl, pn, none⟩ (.string ((⟨(d.pend[i].2.take sn).toArray⟩ : ByteArray) ++ ⟨(pl.drop sn).toArray⟩))) [M, gl] ∧ (W.setCell ⟨gl, pn, none⟩ (.string ((⟨(d.pend[i].2.take sn).toArray⟩ : ByteArray) ++ ⟨(pl.drop sn).toArray⟩))).heap[N]? = some (.cells FV 27 (0, 0))) ∧
          W.cell? ⟨N, 0, none⟩ = some (.slice kao kn kc) ∧ W.cell? ⟨N, 1, none⟩ = some (.int .i64 torn) ∧ W.cell? ⟨N, 2, none⟩ = some (.int .i64 cut)) := fun W hW hb => by
        have hb' : Below wr.heap.size wr W := by rw [← hN7]; exact hb
        have hRW := hR.below hb'
        obtain ⟨gl2, cl2, hvl2, eL2, eZ2⟩ := hRW.lie_at pn (by show pn < (d.landed (lshare all ks torn cut) i).length; rw [hll]; exact hpP)
        rw [hmp] at hvl2
        obtain ⟨rfl, _⟩ : gl = gl2 ∧ cl = cl2 := by simpa using hvl2
        have hNs : N < wr.heap.size := (Array.getElem?_eq_some_iff.1 hX).1
        have hXW : W.heap[N]? = some (.cells FV 27 (0, 0)) := (hb'.block N hNs).trans hX
        have hgN : gl ≠ N := fun e => by
          have h1 := (unhide HH).lies.lt gl rfl
          have := unhide HN
          omega
        have hXW' := hXW
        rw [unhide HFV] at hXW'
        refine ⟨⟨hRW.c0, by show W.cell? _ = _; rw [cell_of_row W N7 0 _ _ _ hW, hC]; rfl, by show W.cell? _ = _; rw [cell_of_row W N7 1 _ _ _ hW, hC]; rfl, by show W.cell? _ = _; rw [eL2, hSL, hpl]; rfl, eZ2⟩, ⟨?_, (hU.trans (UpS.ofBelow [] hb') (fun x hx => by cases hx)).setCell (.inl (by simp)) _, (Deep.blk_setCell_other W ⟨gl, pn, none⟩ _ N (fun e => hgN e.symm)).trans hXW⟩, cell_of_row W N 0 _ _ _ hXW', cell_of_row W N 1 _ _ _ hXW', cell_of_row W N 2 _ _ _ hXW'⟩
        have hRW' := hRW
        rw [unhide HP] at hRW'
        have := hRW'.land hil (unhide HH).ok
        rw [← hpn, ← hpl, ← hsn, hstr, ← unhide HP] at this
        exact this
      generalize (⟨(d.pend[i].2.take sn).toArray⟩ : ByteArray) = A1 at *
      generalize (⟨(pl.drop sn).toArray⟩ : ByteArray) = A2 at *
      have HSN : Hid (sn = lshare all ks torn cut i) := hsn
      clear hR hU hX eN eS eL eL' eZ eN' eS' hpg hpn hSP hpl hpll hll hSL hmp hmq hv2 hvl hC hstr hN7 hglM hsn HI
      cases all
      · by_cases ht : (i : Int) = torn
        · have hsh : sn = (min (max cut 0) 128).toNat * 8 := by rw [unhide HSN, lshare, if_neg (by decide), share, if_pos ht]
          subst ht
          by_cases hc0 : cut ≤ 0
          · have hc0' : max cut 0 = 0 := by omega
            rcases Int.lt_or_eq_of_le hc0 with hcl | rfl
            · by_cases hik : i < ks.length
              · cases hkb : ks[i]
                · have hkI : (i : Int) < (kn : Int) := by rw [unhide HKN]; omega
                  have HSH := hide hsh
                  clear hsh
                  go_wp2_with (first
                    | (refine wpList_load_mid (by rfl) 95 (.tmp 23) (by rfl) g2 (i * 2) (by rfl) C.toList _ (unhide HR2) refWUnd rfl (by rw [Array.length_toList, (unhide HC1).1]; exact refWInfo) ?_; simp only [Act.put, List.setIfInBounds_toArray, List.set_cons_zero, List.set_cons_succ, Array.toArray_toList])
                    | (refine wpList_alloc_row (by rfl) 95 (by rfl) (some 7) (by rfl) N7 (by exact (unhide HN7).symm) _ zRefW ?_; intro W6 HX6 HB6 HS6; simp only [Act.put, List.setIfInBounds_toArray, List.set_cons_zero, List.set_cons_succ])
                    | (refine wpList_store_row (by rfl) 95 (.tmp 7) (.tmp 24) (by rfl) N7 C (by rfl) (by rfl) 95 _ (unhide HX6) (by rw [(unhide HC1).1]; exact refWInfo) (by rw [(unhide HC1).1]; rfl) (unhide HC1).2.1 ?_
                       have HX7 := hide (heapRow_same (unhide HX6) C)
                       have HB7 := hide (belowRow (unhide HB6) (Nat.le_refl N7) C)
                       generalize W6.setRow N7 C = W7 at *
                       obtain ⟨HS7, HNX, q0, q1, q2⟩ := unhide HGO W7 (unhide HX7) (unhide HB7)
                       obtain ⟨kg, ko, hkao, hkce⟩ := unhide HKC W7 (unhide HB7) hik
                       subst hkao
                       rw [hkb] at hkce
                       simp only [Act.put]))
                  rw [show (Value.int .i64 0) = .int .i64 (sn : Int) from by rw [show (0 : Int) = (sn : Int) from by rw [unhide HSH, hc0']; rfl]]
                  refine wp_region_last (fun u' => u'.cell? ⟨M, 0, none⟩ = some (.slice (some ⟨gl, 0, none⟩) P cl) ∧ u'.cell? ⟨N7, 0, none⟩ = some (.int .i64 (pn : Int)) ∧ u'.cell? ⟨N7, 1, none⟩ = some (.string SP) ∧ u'.cell? ⟨gl, pn, none⟩ = some (.string SL) ∧ u'.frozen? ⟨gl, pn, none⟩ = false) 22 (by kernel_rfl) (unhide HS7) fun hS => ?_
                  refine wpAnyL_take 0 53 (.pointer (some ⟨M, 0, none⟩)) [] rfl rfl (by kernel_rfl) (by kernel_rfl) (by kernel_rfl) (by kernel_rfl) (by kernel_rfl) (fun _ _ _ h => h) (by rfl) (fun u _ => by go_simp) hS ?_
                  simp only [Act.put, List.setIfInBounds_toArray, List.set_cons_zero, List.set_cons_succ]
                  refine wpAnyL_take 1 54 (.pointer (some ⟨M, 0, none⟩)) [] rfl rfl (by kernel_rfl) (by kernel_rfl) (by kernel_rfl) (by kernel_rfl) (by kernel_rfl) (fun _ _ _ h => h) (by rfl) (fun u _ => by go_simp) hS ?_
                  simp only [Act.put, List.setIfInBounds_toArray, List.set_cons_zero, List.set_cons_succ]
                  refine wpAnyL_take 2 55 (.pointer (some ⟨M, 0, none⟩)) [] rfl rfl (by kernel_rfl) (by kernel_rfl) (by kernel_rfl) (by kernel_rfl) (by kernel_rfl) (fun _ _ _ h => h) (by rfl) (fun u _ => by go_simp) hS ?_
                  simp only [Act.put, List.setIfInBounds_toArray, List.set_cons_zero, List.set_cons_succ]
                  refine wpAnyL_take 3 56 (.slice (some ⟨gl, 0, none⟩) P cl) [] rfl rfl (by kernel_rfl) (by kernel_rfl) (by kernel_rfl) (by kernel_rfl) (by kernel_rfl) (fun _ _ _ h => h) (by rfl) (fun u hu => by obtain ⟨s1, s2, s3, s4, s5⟩ := hu; go_simp) hS ?_
                  simp only [Act.put, List.setIfInBounds_toArray, List.set_cons_zero, List.set_cons_succ]
                  refine wpAnyL_take 4 57 (.pointer (some ⟨N7, 0, none⟩)) [] rfl rfl (by kernel_rfl) (by kernel_rfl) (by kernel_rfl) (by kernel_rfl) (by kernel_rfl) (fun _ _ _ h => h) (by rfl) (fun u _ => by go_simp) hS ?_
                  simp only [Act.put, List.setIfInBounds_toArray, List.set_cons_zero, List.set_cons_succ]
                  refine wpAnyL_take 5 58 (.int .i64 (pn : Int)) [] rfl rfl (by kernel_rfl) (by kernel_rfl) (by kernel_rfl) (by kernel_rfl) (by kernel_rfl) (fun _ _ _ h => h) (by rfl) (fun u hu => by obtain ⟨s1, s2, s3, s4, s5⟩ := hu; go_simp) hS ?_
                  simp only [Act.put, List.setIfInBounds_toArray, List.set_cons_zero, List.set_cons_succ]
                  refine wpAnyL_take 6 59 (.pointer (some ⟨N7, 1, none⟩)) [] rfl rfl (by kernel_rfl) (by kernel_rfl) (by kernel_rfl) (by kernel_rfl) (by kernel_rfl) (fun _ _ _ h => h) (by rfl) (fun u _ => by go_simp) hS ?_
                  simp only [Act.put, List.setIfInBounds_toArray, List.set_cons_zero, List.set_cons_succ]
                  refine wpAnyL_take 7 60 (.string SP) [] rfl rfl (by kernel_rfl) (by kernel_rfl) (by kernel_rfl) (by kernel_rfl) (by kernel_rfl) (fun _ _ _ h => h) (by rfl) (fun u hu => by obtain ⟨s1, s2, s3, s4, s5⟩ := hu; go_simp) hS ?_
                  simp only [Act.put, List.setIfInBounds_toArray, List.set_cons_zero, List.set_cons_succ]
                  refine wpAnyL_take 8 61 (.int .i64 (sn : Int)) [] rfl rfl (by kernel_rfl) (by kernel_rfl) (by kernel_rfl) (by kernel_rfl) (by kernel_rfl) (fun _ _ _ h => h) (by rfl) (fun u _ => by go_simp) hS ?_
                  simp only [Act.put, List.setIfInBounds_toArray, List.set_cons_zero, List.set_cons_succ]
                  refine wpAnyL_take 9 62 (.string A1) [] rfl rfl (by kernel_rfl) (by kernel_rfl) (by kernel_rfl) (by kernel_rfl) (by kernel_rfl) (fun _ _ _ h => h) (by rfl) (fun u _ => by go_simp) hS ?_
                  simp only [Act.put, List.setIfInBounds_toArray, List.set_cons_zero, List.set_cons_succ]
                  refine wpAnyL_take 10 63 (.pointer (some ⟨M, 0, none⟩)) [] rfl rfl (by kernel_rfl) (by kernel_rfl) (by kernel_rfl) (by kernel_rfl) (by kernel_rfl) (fun _ _ _ h => h) (by rfl) (fun u _ => by go_simp) hS ?_
                  simp only [Act.put, List.setIfInBounds_toArray, List.set_cons_zero, List.set_cons_succ]
                  refine wpAnyL_take 11 64 (.pointer (some ⟨M, 0, none⟩)) [] rfl rfl (by kernel_rfl) (by kernel_rfl) (by kernel_rfl) (by kernel_rfl) (by kernel_rfl) (fun _ _ _ h => h) (by rfl) (fun u _ => by go_simp) hS ?_
                  simp only [Act.put, List.setIfInBounds_toArray, List.set_cons_zero, List.set_cons_succ]
                  refine wpAnyL_take 12 65 (.pointer (some ⟨M, 0, none⟩)) [] rfl rfl (by kernel_rfl) (by kernel_rfl) (by kernel_rfl) (by kernel_rfl) (by kernel_rfl) (fun _ _ _ h => h) (by rfl) (fun u _ => by go_simp) hS ?_
                  simp only [Act.put, List.setIfInBounds_toArray, List.set_cons_zero, List.set_cons_succ]
                  refine wpAnyL_take 13 66 (.slice (some ⟨gl, 0, none⟩) P cl) [] rfl rfl (by kernel_rfl) (by kernel_rfl) (by kernel_rfl) (by kernel_rfl) (by kernel_rfl) (fun _ _ _ h => h) (by rfl) (fun u hu => by obtain ⟨s1, s2, s3, s4, s5⟩ := hu; go_simp) hS ?_
                  simp only [Act.put, List.setIfInBounds_toArray, List.set_cons_zero, List.set_cons_succ]
                  refine wpAnyL_take 14 67 (.pointer (some ⟨N7, 0, none⟩)) [] rfl rfl (by kernel_rfl) (by kernel_rfl) (by kernel_rfl) (by kernel_rfl) (by kernel_rfl) (fun _ _ _ h => h) (by rfl) (fun u _ => by go_simp) hS ?_
                  simp only [Act.put, List.setIfInBounds_toArray, List.set_cons_zero, List.set_cons_succ]
                  refine wpAnyL_take 15 68 (.int .i64 (pn : Int)) [] rfl rfl (by kernel_rfl) (by kernel_rfl) (by kernel_rfl) (by kernel_rfl) (by kernel_rfl) (fun _ _ _ h => h) (by rfl) (fun u hu => by obtain ⟨s1, s2, s3, s4, s5⟩ := hu; go_simp) hS ?_
                  simp only [Act.put, List.setIfInBounds_toArray, List.set_cons_zero, List.set_cons_succ]
                  refine wpAnyL_take 16 69 (.pointer (some ⟨gl, pn, none⟩)) [] rfl rfl (by kernel_rfl) (by kernel_rfl) (by kernel_rfl) (by kernel_rfl) (by kernel_rfl) (fun _ _ _ h => h) (by rfl) (fun u _ => by go_simp) hS ?_
                  simp only [Act.put, List.setIfInBounds_toArray, List.set_cons_zero, List.set_cons_succ]
                  refine wpAnyL_take 17 70 (.string SL) [] rfl rfl (by kernel_rfl) (by kernel_rfl) (by kernel_rfl) (by kernel_rfl) (by kernel_rfl) (fun _ _ _ h => h) (by rfl) (fun u hu => by obtain ⟨s1, s2, s3, s4, s5⟩ := hu; go_simp) hS ?_
                  simp only [Act.put, List.setIfInBounds_toArray, List.set_cons_zero, List.set_cons_succ]
                  refine wpAnyL_take 18 71 (.int .i64 (sn : Int)) [] rfl rfl (by kernel_rfl) (by kernel_rfl) (by kernel_rfl) (by kernel_rfl) (by kernel_rfl) (fun _ _ _ h => h) (by rfl) (fun u _ => by go_simp) hS ?_
                  simp only [Act.put, List.setIfInBounds_toArray, List.set_cons_zero, List.set_cons_succ]
                  refine wpAnyL_take 19 72 (.string A2) [] rfl rfl (by kernel_rfl) (by kernel_rfl) (by kernel_rfl) (by kernel_rfl) (by kernel_rfl) (fun _ _ _ h => h) (by rfl) (fun u _ => by go_simp) hS ?_
                  simp only [Act.put, List.setIfInBounds_toArray, List.set_cons_zero, List.set_cons_succ]
                  refine wpAnyL_take 20 73 (.string (A1 ++ A2)) [] rfl rfl (by kernel_rfl) (by kernel_rfl) (by kernel_rfl) (by kernel_rfl) (by kernel_rfl) (fun _ _ _ h => h) (by rfl) (fun u _ => by go_simp) hS ?_
                  simp only [Act.put, List.setIfInBounds_toArray, List.set_cons_zero, List.set_cons_succ]
                  refine wpAnyL_take 21 74 (.pointer (some ⟨gl, pn, none⟩)) [] rfl rfl (by kernel_rfl) (by kernel_rfl) (by kernel_rfl) (by kernel_rfl) (by kernel_rfl) (fun _ _ _ h => h) (by rfl) (fun u _ => by go_simp) hS ?_
                  simp only [Act.put, List.setIfInBounds_toArray, List.set_cons_zero, List.set_cons_succ]
                  refine wpAnyL_one (i := 22) (by kernel_rfl) rfl (by rfl) fun K hK => ?_
                  obtain ⟨s1, s2, s3, s4, s5⟩ := hS
                  go_simp
                  refine hK _ _ (fun h => absurd rfl h) ?_
                  clear hK K
                  refine wpAnyL_done (by kernel_rfl) ?_ _
                  go_wp2
                  go_roundw
                  case rel => exact ⟨i + 1, by omega, by go_num, (unhide HNX).1.keep fun _ _ => rfl, (unhide HNX).2.1.drew, (unhide HNX).2.2⟩
                  case measure => simp [intOf]; omega
                · have hkI : (i : Int) < (kn : Int) := by rw [unhide HKN]; omega
                  have HSH := hide hsh
                  clear hsh
                  go_wp2_with (first
                    | (refine wpList_load_mid (by rfl) 95 (.tmp 23) (by rfl) g2 (i * 2) (by rfl) C.toList _ (unhide HR2) refWUnd rfl (by rw [Array.length_toList, (unhide HC1).1]; exact refWInfo) ?_; simp only [Act.put, List.setIfInBounds_toArray, List.set_cons_zero, List.set_cons_succ, Array.toArray_toList])
                    | (refine wpList_alloc_row (by rfl) 95 (by rfl) (some 7) (by rfl) N7 (by exact (unhide HN7).symm) _ zRefW ?_; intro W6 HX6 HB6 HS6; simp only [Act.put, List.setIfInBounds_toArray, List.set_cons_zero, List.set_cons_succ])
                    | (refine wpList_store_row (by rfl) 95 (.tmp 7) (.tmp 24) (by rfl) N7 C (by rfl) (by rfl) 95 _ (unhide HX6) (by rw [(unhide HC1).1]; exact refWInfo) (by rw [(unhide HC1).1]; rfl) (unhide HC1).2.1 ?_
                       have HX7 := hide (heapRow_same (unhide HX6) C)
                       have HB7 := hide (belowRow (unhide HB6) (Nat.le_refl N7) C)
                       generalize W6.setRow N7 C = W7 at *
                       obtain ⟨HS7, HNX, q0, q1, q2⟩ := unhide HGO W7 (unhide HX7) (unhide HB7)
                       obtain ⟨kg, ko, hkao, hkce⟩ := unhide HKC W7 (unhide HB7) hik
                       subst hkao
                       rw [hkb] at hkce
                       simp only [Act.put]))
                  rw [show (Value.int .i64 0) = .int .i64 (sn : Int) from by rw [show (0 : Int) = (sn : Int) from by rw [unhide HSH, hc0']; rfl]]
                  refine wp_region_last (fun u' => u'.cell? ⟨M, 0, none⟩ = some (.slice (some ⟨gl, 0, none⟩) P cl) ∧ u'.cell? ⟨N7, 0, none⟩ = some (.int .i64 (pn : Int)) ∧ u'.cell? ⟨N7, 1, none⟩ = some (.string SP) ∧ u'.cell? ⟨gl, pn, none⟩ = some (.string SL) ∧ u'.frozen? ⟨gl, pn, none⟩ = false) 22 (by kernel_rfl) (unhide HS7) fun hS => ?_
                  refine wpAnyL_take 0 53 (.pointer (some ⟨M, 0, none⟩)) [] rfl rfl (by kernel_rfl) (by kernel_rfl) (by kernel_rfl) (by kernel_rfl) (by kernel_rfl) (fun _ _ _ h => h) (by rfl) (fun u _ => by go_simp) hS ?_
                  simp only [Act.put, List.setIfInBounds_toArray, List.set_cons_zero, List.set_cons_succ]
                  refine wpAnyL_take 1 54 (.pointer (some ⟨M, 0, none⟩)) [] rfl rfl (by kernel_rfl) (by kernel_rfl) (by kernel_rfl) (by kernel_rfl) (by kernel_rfl) (fun _ _ _ h => h) (by rfl) (fun u _ => by go_simp) hS ?_
                  simp only [Act.put, List.setIfInBounds_toArray, List.set_cons_zero, List.set_cons_succ]
                  refine wpAnyL_take 2 55 (.pointer (some ⟨M, 0, none⟩)) [] rfl rfl (by kernel_rfl) (by kernel_rfl) (by kernel_rfl) (by kernel_rfl) (by kernel_rfl) (fun _ _ _ h => h) (by rfl) (fun u _ => by go_simp) hS ?_
                  simp only [Act.put, List.setIfInBounds_toArray, List.set_cons_zero, List.set_cons_succ]
                  refine wpAnyL_take 3 56 (.slice (some ⟨gl, 0, none⟩) P cl) [] rfl rfl (by kernel_rfl) (by kernel_rfl) (by kernel_rfl) (by kernel_rfl) (by kernel_rfl) (fun _ _ _ h => h) (by rfl) (fun u hu => by obtain ⟨s1, s2, s3, s4, s5⟩ := hu; go_simp) hS ?_
                  simp only [Act.put, List.setIfInBounds_toArray, List.set_cons_zero, List.set_cons_succ]
                  refine wpAnyL_take 4 57 (.pointer (some ⟨N7, 0, none⟩)) [] rfl rfl (by kernel_rfl) (by kernel_rfl) (by kernel_rfl) (by kernel_rfl) (by kernel_rfl) (fun _ _ _ h => h) (by rfl) (fun u _ => by go_simp) hS ?_
                  simp only [Act.put, List.setIfInBounds_toArray, List.set_cons_zero, List.set_cons_succ]
                  refine wpAnyL_take 5 58 (.int .i64 (pn : Int)) [] rfl rfl (by kernel_rfl) (by kernel_rfl) (by kernel_rfl) (by kernel_rfl) (by kernel_rfl) (fun _ _ _ h => h) (by rfl) (fun u hu => by obtain ⟨s1, s2, s3, s4, s5⟩ := hu; go_simp) hS ?_
                  simp only [Act.put, List.setIfInBounds_toArray, List.set_cons_zero, List.set_cons_succ]
                  refine wpAnyL_take 6 59 (.pointer (some ⟨N7, 1, none⟩)) [] rfl rfl (by kernel_rfl) (by kernel_rfl) (by kernel_rfl) (by kernel_rfl) (by kernel_rfl) (fun _ _ _ h => h) (by rfl) (fun u _ => by go_simp) hS ?_
                  simp only [Act.put, List.setIfInBounds_toArray, List.set_cons_zero, List.set_cons_succ]
                  refine wpAnyL_take 7 60 (.string SP) [] rfl rfl (by kernel_rfl) (by kernel_rfl) (by kernel_rfl) (by kernel_rfl) (by kernel_rfl) (fun _ _ _ h => h) (by rfl) (fun u hu => by obtain ⟨s1, s2, s3, s4, s5⟩ := hu; go_simp) hS ?_
                  simp only [Act.put, List.setIfInBounds_toArray, List.set_cons_zero, List.set_cons_succ]
                  refine wpAnyL_take 8 61 (.int .i64 (sn : Int)) [] rfl rfl (by kernel_rfl) (by kernel_rfl) (by kernel_rfl) (by kernel_rfl) (by kernel_rfl) (fun _ _ _ h => h) (by rfl) (fun u _ => by go_simp) hS ?_
                  simp only [Act.put, List.setIfInBounds_toArray, List.set_cons_zero, List.set_cons_succ]
                  refine wpAnyL_take 9 62 (.string A1) [] rfl rfl (by kernel_rfl) (by kernel_rfl) (by kernel_rfl) (by kernel_rfl) (by kernel_rfl) (fun _ _ _ h => h) (by rfl) (fun u _ => by go_simp) hS ?_
                  simp only [Act.put, List.setIfInBounds_toArray, List.set_cons_zero, List.set_cons_succ]
                  refine wpAnyL_take 10 63 (.pointer (some ⟨M, 0, none⟩)) [] rfl rfl (by kernel_rfl) (by kernel_rfl) (by kernel_rfl) (by kernel_rfl) (by kernel_rfl) (fun _ _ _ h => h) (by rfl) (fun u _ => by go_simp) hS ?_
                  simp only [Act.put, List.setIfInBounds_toArray, List.set_cons_zero, List.set_cons_succ]
                  refine wpAnyL_take 11 64 (.pointer (some ⟨M, 0, none⟩)) [] rfl rfl (by kernel_rfl) (by kernel_rfl) (by kernel_rfl) (by kernel_rfl) (by kernel_rfl) (fun _ _ _ h => h) (by rfl) (fun u _ => by go_simp) hS ?_
                  simp only [Act.put, List.setIfInBounds_toArray, List.set_cons_zero, List.set_cons_succ]
                  refine wpAnyL_take 12 65 (.pointer (some ⟨M, 0, none⟩)) [] rfl rfl (by kernel_rfl) (by kernel_rfl) (by kernel_rfl) (by kernel_rfl) (by kernel_rfl) (fun _ _ _ h => h) (by rfl) (fun u _ => by go_simp) hS ?_
                  simp only [Act.put, List.setIfInBounds_toArray, List.set_cons_zero, List.set_cons_succ]
                  refine wpAnyL_take 13 66 (.slice (some ⟨gl, 0, none⟩) P cl) [] rfl rfl (by kernel_rfl) (by kernel_rfl) (by kernel_rfl) (by kernel_rfl) (by kernel_rfl) (fun _ _ _ h => h) (by rfl) (fun u hu => by obtain ⟨s1, s2, s3, s4, s5⟩ := hu; go_simp) hS ?_
                  simp only [Act.put, List.setIfInBounds_toArray, List.set_cons_zero, List.set_cons_succ]
                  refine wpAnyL_take 14 67 (.pointer (some ⟨N7, 0, none⟩)) [] rfl rfl (by kernel_rfl) (by kernel_rfl) (by kernel_rfl) (by kernel_rfl) (by kernel_rfl) (fun _ _ _ h => h) (by rfl) (fun u _ => by go_simp) hS ?_
                  simp only [Act.put, List.setIfInBounds_toArray, List.set_cons_zero, List.set_cons_succ]
                  refine wpAnyL_take 15 68 (.int .i64 (pn : Int)) [] rfl rfl (by kernel_rfl) (by kernel_rfl) (by kernel_rfl) (by kernel_rfl) (by kernel_rfl) (fun _ _ _ h => h) (by rfl) (fun u hu => by obtain ⟨s1, s2, s3, s4, s5⟩ := hu; go_simp) hS ?_
                  simp only [Act.put, List.setIfInBounds_toArray, List.set_cons_zero, List.set_cons_succ]
                  refine wpAnyL_take 16 69 (.pointer (some ⟨gl, pn, none⟩)) [] rfl rfl (by kernel_rfl) (by kernel_rfl) (by kernel_rfl) (by kernel_rfl) (by kernel_rfl) (fun _ _ _ h => h) (by rfl) (fun u _ => by go_simp) hS ?_
                  simp only [Act.put, List.setIfInBounds_toArray, List.set_cons_zero, List.set_cons_succ]
                  refine wpAnyL_take 17 70 (.string SL) [] rfl rfl (by kernel_rfl) (by kernel_rfl) (by kernel_rfl) (by kernel_rfl) (by kernel_rfl) (fun _ _ _ h => h) (by rfl) (fun u hu => by obtain ⟨s1, s2, s3, s4, s5⟩ := hu; go_simp) hS ?_
                  simp only [Act.put, List.setIfInBounds_toArray, List.set_cons_zero, List.set_cons_succ]
                  refine wpAnyL_take 18 71 (.int .i64 (sn : Int)) [] rfl rfl (by kernel_rfl) (by kernel_rfl) (by kernel_rfl) (by kernel_rfl) (by kernel_rfl) (fun _ _ _ h => h) (by rfl) (fun u _ => by go_simp) hS ?_
                  simp only [Act.put, List.setIfInBounds_toArray, List.set_cons_zero, List.set_cons_succ]
                  refine wpAnyL_take 19 72 (.string A2) [] rfl rfl (by kernel_rfl) (by kernel_rfl) (by kernel_rfl) (by kernel_rfl) (by kernel_rfl) (fun _ _ _ h => h) (by rfl) (fun u _ => by go_simp) hS ?_
                  simp only [Act.put, List.setIfInBounds_toArray, List.set_cons_zero, List.set_cons_succ]
                  refine wpAnyL_take 20 73 (.string (A1 ++ A2)) [] rfl rfl (by kernel_rfl) (by kernel_rfl) (by kernel_rfl) (by kernel_rfl) (by kernel_rfl) (fun _ _ _ h => h) (by rfl) (fun u _ => by go_simp) hS ?_
                  simp only [Act.put, List.setIfInBounds_toArray, List.set_cons_zero, List.set_cons_succ]
                  refine wpAnyL_take 21 74 (.pointer (some ⟨gl, pn, none⟩)) [] rfl rfl (by kernel_rfl) (by kernel_rfl) (by kernel_rfl) (by kernel_rfl) (by kernel_rfl) (fun _ _ _ h => h) (by rfl) (fun u _ => by go_simp) hS ?_
                  simp only [Act.put, List.setIfInBounds_toArray, List.set_cons_zero, List.set_cons_succ]
                  refine wpAnyL_one (i := 22) (by kernel_rfl) rfl (by rfl) fun K hK => ?_
                  obtain ⟨s1, s2, s3, s4, s5⟩ := hS
                  go_simp
                  refine hK _ _ (fun h => absurd rfl h) ?_
                  clear hK K
                  refine wpAnyL_done (by kernel_rfl) ?_ _
                  go_wp2
                  go_roundw
                  case rel => exact ⟨i + 1, by omega, by go_num, (unhide HNX).1.keep fun _ _ => rfl, (unhide HNX).2.1.drew, (unhide HNX).2.2⟩
                  case measure => simp [intOf]; omega
              · have hkO : ¬ (i : Int) < (kn : Int) := by rw [unhide HKN]; omega
                have HSH := hide hsh
                clear hsh
                go_wp2_with (first
                  | (refine wpList_load_mid (by rfl) 95 (.tmp 23) (by rfl) g2 (i * 2) (by rfl) C.toList _ (unhide HR2) refWUnd rfl (by rw [Array.length_toList, (unhide HC1).1]; exact refWInfo) ?_; simp only [Act.put, List.setIfInBounds_toArray, List.set_cons_zero, List.set_cons_succ, Array.toArray_toList])
                  | (refine wpList_alloc_row (by rfl) 95 (by rfl) (some 7) (by rfl) N7 (by exact (unhide HN7).symm) _ zRefW ?_; intro W6 HX6 HB6 HS6; simp only [Act.put, List.setIfInBounds_toArray, List.set_cons_zero, List.set_cons_succ])
                  | (refine wpList_store_row (by rfl) 95 (.tmp 7) (.tmp 24) (by rfl) N7 C (by rfl) (by rfl) 95 _ (unhide HX6) (by rw [(unhide HC1).1]; exact refWInfo) (by rw [(unhide HC1).1]; rfl) (unhide HC1).2.1 ?_
                     have HX7 := hide (heapRow_same (unhide HX6) C)
                     have HB7 := hide (belowRow (unhide HB6) (Nat.le_refl N7) C)
                     generalize W6.setRow N7 C = W7 at *
                     obtain ⟨HS7, HNX, q0, q1, q2⟩ := unhide HGO W7 (unhide HX7) (unhide HB7)
                     simp only [Act.put]))
                rw [show (Value.int .i64 0) = .int .i64 (sn : Int) from by rw [show (0 : Int) = (sn : Int) from by rw [unhide HSH, hc0']; rfl]]
                refine wp_region_last (fun u' => u'.cell? ⟨M, 0, none⟩ = some (.slice (some ⟨gl, 0, none⟩) P cl) ∧ u'.cell? ⟨N7, 0, none⟩ = some (.int .i64 (pn : Int)) ∧ u'.cell? ⟨N7, 1, none⟩ = some (.string SP) ∧ u'.cell? ⟨gl, pn, none⟩ = some (.string SL) ∧ u'.frozen? ⟨gl, pn, none⟩ = false) 22 (by kernel_rfl) (unhide HS7) fun hS => ?_
                refine wpAnyL_take 0 53 (.pointer (some ⟨M, 0, none⟩)) [] rfl rfl (by kernel_rfl) (by kernel_rfl) (by kernel_rfl) (by kernel_rfl) (by kernel_rfl) (fun _ _ _ h => h) (by rfl) (fun u _ => by go_simp) hS ?_
                simp only [Act.put, List.setIfInBounds_toArray, List.set_cons_zero, List.set_cons_succ]
                refine wpAnyL_take 1 54 (.pointer (some ⟨M, 0, none⟩)) [] rfl rfl (by kernel_rfl) (by kernel_rfl) (by kernel_rfl) (by kernel_rfl) (by kernel_rfl) (fun _ _ _ h => h) (by rfl) (fun u _ => by go_simp) hS ?_
                simp only [Act.put, List.setIfInBounds_toArray, List.set_cons_zero, List.set_cons_succ]
                refine wpAnyL_take 2 55 (.pointer (some ⟨M, 0, none⟩)) [] rfl rfl (by kernel_rfl) (by kernel_rfl) (by kernel_rfl) (by kernel_rfl) (by kernel_rfl) (fun _ _ _ h => h) (by rfl) (fun u _ => by go_simp) hS ?_
                simp only [Act.put, List.setIfInBounds_toArray, List.set_cons_zero, List.set_cons_succ]
                refine wpAnyL_take 3 56 (.slice (some ⟨gl, 0, none⟩) P cl) [] rfl rfl (by kernel_rfl) (by kernel_rfl) (by kernel_rfl) (by kernel_rfl) (by kernel_rfl) (fun _ _ _ h => h) (by rfl) (fun u hu => by obtain ⟨s1, s2, s3, s4, s5⟩ := hu; go_simp) hS ?_
                simp only [Act.put, List.setIfInBounds_toArray, List.set_cons_zero, List.set_cons_succ]
                refine wpAnyL_take 4 57 (.pointer (some ⟨N7, 0, none⟩)) [] rfl rfl (by kernel_rfl) (by kernel_rfl) (by kernel_rfl) (by kernel_rfl) (by kernel_rfl) (fun _ _ _ h => h) (by rfl) (fun u _ => by go_simp) hS ?_
                simp only [Act.put, List.setIfInBounds_toArray, List.set_cons_zero, List.set_cons_succ]
                refine wpAnyL_take 5 58 (.int .i64 (pn : Int)) [] rfl rfl (by kernel_rfl) (by kernel_rfl) (by kernel_rfl) (by kernel_rfl) (by kernel_rfl) (fun _ _ _ h => h) (by rfl) (fun u hu => by obtain ⟨s1, s2, s3, s4, s5⟩ := hu; go_simp) hS ?_
                simp only [Act.put, List.setIfInBounds_toArray, List.set_cons_zero, List.set_cons_succ]
                refine wpAnyL_take 6 59 (.pointer (some ⟨N7, 1, none⟩)) [] rfl rfl (by kernel_rfl) (by kernel_rfl) (by kernel_rfl) (by kernel_rfl) (by kernel_rfl) (fun _ _ _ h => h) (by rfl) (fun u _ => by go_simp) hS ?_
                simp only [Act.put, List.setIfInBounds_toArray, List.set_cons_zero, List.set_cons_succ]
                refine wpAnyL_take 7 60 (.string SP) [] rfl rfl (by kernel_rfl) (by kernel_rfl) (by kernel_rfl) (by kernel_rfl) (by kernel_rfl) (fun _ _ _ h => h) (by rfl) (fun u hu => by obtain ⟨s1, s2, s3, s4, s5⟩ := hu; go_simp) hS ?_
                simp only [Act.put, List.setIfInBounds_toArray, List.set_cons_zero, List.set_cons_succ]
                refine wpAnyL_take 8 61 (.int .i64 (sn : Int)) [] rfl rfl (by kernel_rfl) (by kernel_rfl) (by kernel_rfl) (by kernel_rfl) (by kernel_rfl) (fun _ _ _ h => h) (by rfl) (fun u _ => by go_simp) hS ?_
                simp only [Act.put, List.setIfInBounds_toArray, List.set_cons_zero, List.set_cons_succ]
                refine wpAnyL_take 9 62 (.string A1) [] rfl rfl (by kernel_rfl) (by kernel_rfl) (by kernel_rfl) (by kernel_rfl) (by kernel_rfl) (fun _ _ _ h => h) (by rfl) (fun u _ => by go_simp) hS ?_
                simp only [Act.put, List.setIfInBounds_toArray, List.set_cons_zero, List.set_cons_succ]
                refine wpAnyL_take 10 63 (.pointer (some ⟨M, 0, none⟩)) [] rfl rfl (by kernel_rfl) (by kernel_rfl) (by kernel_rfl) (by kernel_rfl) (by kernel_rfl) (fun _ _ _ h => h) (by rfl) (fun u _ => by go_simp) hS ?_
                simp only [Act.put, List.setIfInBounds_toArray, List.set_cons_zero, List.set_cons_succ]
                refine wpAnyL_take 11 64 (.pointer (some ⟨M, 0, none⟩)) [] rfl rfl (by kernel_rfl) (by kernel_rfl) (by kernel_rfl) (by kernel_rfl) (by kernel_rfl) (fun _ _ _ h => h) (by rfl) (fun u _ => by go_simp) hS ?_
                simp only [Act.put, List.setIfInBounds_toArray, List.set_cons_zero, List.set_cons_succ]
                refine wpAnyL_take 12 65 (.pointer (some ⟨M, 0, none⟩)) [] rfl rfl (by kernel_rfl) (by kernel_rfl) (by kernel_rfl) (by kernel_rfl) (by kernel_rfl) (fun _ _ _ h => h) (by rfl) (fun u _ => by go_simp) hS ?_
                simp only [Act.put, List.setIfInBounds_toArray, List.set_cons_zero, List.set_cons_succ]
                refine wpAnyL_take 13 66 (.slice (some ⟨gl, 0, none⟩) P cl) [] rfl rfl (by kernel_rfl) (by kernel_rfl) (by kernel_rfl) (by kernel_rfl) (by kernel_rfl) (fun _ _ _ h => h) (by rfl) (fun u hu => by obtain ⟨s1, s2, s3, s4, s5⟩ := hu; go_simp) hS ?_
                simp only [Act.put, List.setIfInBounds_toArray, List.set_cons_zero, List.set_cons_succ]
                refine wpAnyL_take 14 67 (.pointer (some ⟨N7, 0, none⟩)) [] rfl rfl (by kernel_rfl) (by kernel_rfl) (by kernel_rfl) (by kernel_rfl) (by kernel_rfl) (fun _ _ _ h => h) (by rfl) (fun u _ => by go_simp) hS ?_
                simp only [Act.put, List.setIfInBounds_toArray, List.set_cons_zero, List.set_cons_succ]
                refine wpAnyL_take 15 68 (.int .i64 (pn : Int)) [] rfl rfl (by kernel_rfl) (by kernel_rfl) (by kernel_rfl) (by kernel_rfl) (by kernel_rfl) (fun _ _ _ h => h) (by rfl) (fun u hu => by obtain ⟨s1, s2, s3, s4, s5⟩ := hu; go_simp) hS ?_
                simp only [Act.put, List.setIfInBounds_toArray, List.set_cons_zero, List.set_cons_succ]
                refine wpAnyL_take 16 69 (.pointer (some ⟨gl, pn, none⟩)) [] rfl rfl (by kernel_rfl) (by kernel_rfl) (by kernel_rfl) (by kernel_rfl) (by kernel_rfl) (fun _ _ _ h => h) (by rfl) (fun u _ => by go_simp) hS ?_
                simp only [Act.put, List.setIfInBounds_toArray, List.set_cons_zero, List.set_cons_succ]
                refine wpAnyL_take 17 70 (.string SL) [] rfl rfl (by kernel_rfl) (by kernel_rfl) (by kernel_rfl) (by kernel_rfl) (by kernel_rfl) (fun _ _ _ h => h) (by rfl) (fun u hu => by obtain ⟨s1, s2, s3, s4, s5⟩ := hu; go_simp) hS ?_
                simp only [Act.put, List.setIfInBounds_toArray, List.set_cons_zero, List.set_cons_succ]
                refine wpAnyL_take 18 71 (.int .i64 (sn : Int)) [] rfl rfl (by kernel_rfl) (by kernel_rfl) (by kernel_rfl) (by kernel_rfl) (by kernel_rfl) (fun _ _ _ h => h) (by rfl) (fun u _ => by go_simp) hS ?_
                simp only [Act.put, List.setIfInBounds_toArray, List.set_cons_zero, List.set_cons_succ]
                refine wpAnyL_take 19 72 (.string A2) [] rfl rfl (by kernel_rfl) (by kernel_rfl) (by kernel_rfl) (by kernel_rfl) (by kernel_rfl) (fun _ _ _ h => h) (by rfl) (fun u _ => by go_simp) hS ?_
                simp only [Act.put, List.setIfInBounds_toArray, List.set_cons_zero, List.set_cons_succ]
                refine wpAnyL_take 20 73 (.string (A1 ++ A2)) [] rfl rfl (by kernel_rfl) (by kernel_rfl) (by kernel_rfl) (by kernel_rfl) (by kernel_rfl) (fun _ _ _ h => h) (by rfl) (fun u _ => by go_simp) hS ?_
                simp only [Act.put, List.setIfInBounds_toArray, List.set_cons_zero, List.set_cons_succ]
                refine wpAnyL_take 21 74 (.pointer (some ⟨gl, pn, none⟩)) [] rfl rfl (by kernel_rfl) (by kernel_rfl) (by kernel_rfl) (by kernel_rfl) (by kernel_rfl) (fun _ _ _ h => h) (by rfl) (fun u _ => by go_simp) hS ?_
                simp only [Act.put, List.setIfInBounds_toArray, List.set_cons_zero, List.set_cons_succ]
                refine wpAnyL_one (i := 22) (by kernel_rfl) rfl (by rfl) fun K hK => ?_
                obtain ⟨s1, s2, s3, s4, s5⟩ := hS
                go_simp
                refine hK _ _ (fun h => absurd rfl h) ?_
                clear hK K
                refine wpAnyL_done (by kernel_rfl) ?_ _
                go_wp2
                go_roundw
                case rel => exact ⟨i + 1, by omega, by go_num, (unhide HNX).1.keep fun _ _ => rfl, (unhide HNX).2.1.drew, (unhide HNX).2.2⟩
                case measure => simp [intOf]; omega
            · by_cases hik : i < ks.length
              · cases hkb : ks[i]
                · have hkI : (i : Int) < (kn : Int) := by rw [unhide HKN]; omega
                  have HSH := hide hsh
                  clear hsh
                  go_wp2_with (first
                    | (refine wpList_load_mid (by rfl) 95 (.tmp 23) (by rfl) g2 (i * 2) (by rfl) C.toList _ (unhide HR2) refWUnd rfl (by rw [Array.length_toList, (unhide HC1).1]; exact refWInfo) ?_; simp only [Act.put, List.setIfInBounds_toArray, List.set_cons_zero, List.set_cons_succ, Array.toArray_toList])
                    | (refine wpList_alloc_row (by rfl) 95 (by rfl) (some 7) (by rfl) N7 (by exact (unhide HN7).symm) _ zRefW ?_; intro W6 HX6 HB6 HS6; simp only [Act.put, List.setIfInBounds_toArray, List.set_cons_zero, List.set_cons_succ])
                    | (refine wpList_store_row (by rfl) 95 (.tmp 7) (.tmp 24) (by rfl) N7 C (by rfl) (by rfl) 95 _ (unhide HX6) (by rw [(unhide HC1).1]; exact refWInfo) (by rw [(unhide HC1).1]; rfl) (unhide HC1).2.1 ?_
                       have HX7 := hide (heapRow_same (unhide HX6) C)
                       have HB7 := hide (belowRow (unhide HB6) (Nat.le_refl N7) C)
                       generalize W6.setRow N7 C = W7 at *
                       obtain ⟨HS7, HNX, q0, q1, q2⟩ := unhide HGO W7 (unhide HX7) (unhide HB7)
                       obtain ⟨kg, ko, hkao, hkce⟩ := unhide HKC W7 (unhide HB7) hik
                       subst hkao
                       rw [hkb] at hkce
                       simp only [Act.put]))
                  rw [show (Value.int .i64 0) = .int .i64 (sn : Int) from by rw [show (0 : Int) = (sn : Int) from by rw [unhide HSH]; rfl]]
                  refine wp_region_last (fun u' => u'.cell? ⟨M, 0, none⟩ = some (.slice (some ⟨gl, 0, none⟩) P cl) ∧ u'.cell? ⟨N7, 0, none⟩ = some (.int .i64 (pn : Int)) ∧ u'.cell? ⟨N7, 1, none⟩ = some (.string SP) ∧ u'.cell? ⟨gl, pn, none⟩ = some (.string SL) ∧ u'.frozen? ⟨gl, pn, none⟩ = false) 22 (by kernel_rfl) (unhide HS7) fun hS => ?_
                  refine wpAnyL_take 0 53 (.pointer (some ⟨M, 0, none⟩)) [] rfl rfl (by kernel_rfl) (by kernel_rfl) (by kernel_rfl) (by kernel_rfl) (by kernel_rfl) (fun _ _ _ h => h) (by rfl) (fun u _ => by go_simp) hS ?_
                  simp only [Act.put, List.setIfInBounds_toArray, List.set_cons_zero, List.set_cons_succ]
                  refine wpAnyL_take 1 54 (.pointer (some ⟨M, 0, none⟩)) [] rfl rfl (by kernel_rfl) (by kernel_rfl) (by kernel_rfl) (by kernel_rfl) (by kernel_rfl) (fun _ _ _ h => h) (by rfl) (fun u _ => by go_simp) hS ?_
                  simp only [Act.put, List.setIfInBounds_toArray, List.set_cons_zero, List.set_cons_succ]
                  refine wpAnyL_take 2 55 (.pointer (some ⟨M, 0, none⟩)) [] rfl rfl (by kernel_rfl) (by kernel_rfl) (by kernel_rfl) (by kernel_rfl) (by kernel_rfl) (fun _ _ _ h => h) (by rfl) (fun u _ => by go_simp) hS ?_
                  simp only [Act.put, List.setIfInBounds_toArray, List.set_cons_zero, List.set_cons_succ]
                  refine wpAnyL_take 3 56 (.slice (some ⟨gl, 0, none⟩) P cl) [] rfl rfl (by kernel_rfl) (by kernel_rfl) (by kernel_rfl) (by kernel_rfl) (by kernel_rfl) (fun _ _ _ h => h) (by rfl) (fun u hu => by obtain ⟨s1, s2, s3, s4, s5⟩ := hu; go_simp) hS ?_
                  simp only [Act.put, List.setIfInBounds_toArray, List.set_cons_zero, List.set_cons_succ]
                  refine wpAnyL_take 4 57 (.pointer (some ⟨N7, 0, none⟩)) [] rfl rfl (by kernel_rfl) (by kernel_rfl) (by kernel_rfl) (by kernel_rfl) (by kernel_rfl) (fun _ _ _ h => h) (by rfl) (fun u _ => by go_simp) hS ?_
                  simp only [Act.put, List.setIfInBounds_toArray, List.set_cons_zero, List.set_cons_succ]
                  refine wpAnyL_take 5 58 (.int .i64 (pn : Int)) [] rfl rfl (by kernel_rfl) (by kernel_rfl) (by kernel_rfl) (by kernel_rfl) (by kernel_rfl) (fun _ _ _ h => h) (by rfl) (fun u hu => by obtain ⟨s1, s2, s3, s4, s5⟩ := hu; go_simp) hS ?_
                  simp only [Act.put, List.setIfInBounds_toArray, List.set_cons_zero, List.set_cons_succ]
                  refine wpAnyL_take 6 59 (.pointer (some ⟨N7, 1, none⟩)) [] rfl rfl (by kernel_rfl) (by kernel_rfl) (by kernel_rfl) (by kernel_rfl) (by kernel_rfl) (fun _ _ _ h => h) (by rfl) (fun u _ => by go_simp) hS ?_
                  simp only [Act.put, List.setIfInBounds_toArray, List.set_cons_zero, List.set_cons_succ]
                  refine wpAnyL_take 7 60 (.string SP) [] rfl rfl (by kernel_rfl) (by kernel_rfl) (by kernel_rfl) (by kernel_rfl) (by kernel_rfl) (fun _ _ _ h => h) (by rfl) (fun u hu => by obtain ⟨s1, s2, s3, s4, s5⟩ := hu; go_simp) hS ?_
                  simp only [Act.put, List.setIfInBounds_toArray, List.set_cons_zero, List.set_cons_succ]
                  refine wpAnyL_take 8 61 (.int .i64 (sn : Int)) [] rfl rfl (by kernel_rfl) (by kernel_rfl) (by kernel_rfl) (by kernel_rfl) (by kernel_rfl) (fun _ _ _ h => h) (by rfl) (fun u _ => by go_simp) hS ?_
                  simp only [Act.put, List.setIfInBounds_toArray, List.set_cons_zero, List.set_cons_succ]
                  refine wpAnyL_take 9 62 (.string A1) [] rfl rfl (by kernel_rfl) (by kernel_rfl) (by kernel_rfl) (by kernel_rfl) (by kernel_rfl) (fun _ _ _ h => h) (by rfl) (fun u _ => by go_simp) hS ?_
                  simp only [Act.put, List.setIfInBounds_toArray, List.set_cons_zero, List.set_cons_succ]
                  refine wpAnyL_take 10 63 (.pointer (some ⟨M, 0, none⟩)) [] rfl rfl (by kernel_rfl) (by kernel_rfl) (by kernel_rfl) (by kernel_rfl) (by kernel_rfl) (fun _ _ _ h => h) (by rfl) (fun u _ => by go_simp) hS ?_
                  simp only [Act.put, List.setIfInBounds_toArray, List.set_cons_zero, List.set_cons_succ]
                  refine wpAnyL_take 11 64 (.pointer (some ⟨M, 0, none⟩)) [] rfl rfl (by kernel_rfl) (by kernel_rfl) (by kernel_rfl) (by kernel_rfl) (by kernel_rfl) (fun _ _ _ h => h) (by rfl) (fun u _ => by go_simp) hS ?_
                  simp only [Act.put, List.setIfInBounds_toArray, List.set_cons_zero, List.set_cons_succ]
                  refine wpAnyL_take 12 65 (.pointer (some ⟨M, 0, none⟩)) [] rfl rfl (by kernel_rfl) (by kernel_rfl) (by kernel_rfl) (by kernel_rfl) (by kernel_rfl) (fun _ _ _ h => h) (by rfl) (fun u _ => by go_simp) hS ?_
                  simp only [Act.put, List.setIfInBounds_toArray, List.set_cons_zero, List.set_cons_succ]
                  refine wpAnyL_take 13 66 (.slice (some ⟨gl, 0, none⟩) P cl) [] rfl rfl (by kernel_rfl) (by kernel_rfl) (by kernel_rfl) (by kernel_rfl) (by kernel_rfl) (fun _ _ _ h => h) (by rfl) (fun u hu => by obtain ⟨s1, s2, s3, s4, s5⟩ := hu; go_simp) hS ?_
                  simp only [Act.put, List.setIfInBounds_toArray, List.set_cons_zero, List.set_cons_succ]
                  refine wpAnyL_take 14 67 (.pointer (some ⟨N7, 0, none⟩)) [] rfl rfl (by kernel_rfl) (by kernel_rfl) (by kernel_rfl) (by kernel_rfl) (by kernel_rfl) (fun _ _ _ h => h) (by rfl) (fun u _ => by go_simp) hS ?_
                  simp only [Act.put, List.setIfInBounds_toArray, List.set_cons_zero, List.set_cons_succ]
                  refine wpAnyL_take 15 68 (.int .i64 (pn : Int)) [] rfl rfl (by kernel_rfl) (by kernel_rfl) (by kernel_rfl) (by kernel_rfl) (by kernel_rfl) (fun _ _ _ h => h) (by rfl) (fun u hu => by obtain ⟨s1, s2, s3, s4, s5⟩ := hu; go_simp) hS ?_
                  simp only [Act.put, List.setIfInBounds_toArray, List.set_cons_zero, List.set_cons_succ]
                  refine wpAnyL_take 16 69 (.pointer (some ⟨gl, pn, none⟩)) [] rfl rfl (by kernel_rfl) (by kernel_rfl) (by kernel_rfl) (by kernel_rfl) (by kernel_rfl) (fun _ _ _ h => h) (by rfl) (fun u _ => by go_simp) hS ?_
                  simp only [Act.put, List.setIfInBounds_toArray, List.set_cons_zero, List.set_cons_succ]
                  refine wpAnyL_take 17 70 (.string SL) [] rfl rfl (by kernel_rfl) (by kernel_rfl) (by kernel_rfl) (by kernel_rfl) (by kernel_rfl) (fun _ _ _ h => h) (by rfl) (fun u hu => by obtain ⟨s1, s2, s3, s4, s5⟩ := hu; go_simp) hS ?_
                  simp only [Act.put, List.setIfInBounds_toArray, List.set_cons_zero, List.set_cons_succ]
                  refine wpAnyL_take 18 71 (.int .i64 (sn : Int)) [] rfl rfl (by kernel_rfl) (by kernel_rfl) (by kernel_rfl) (by kernel_rfl) (by kernel_rfl) (fun _ _ _ h => h) (by rfl) (fun u _ => by go_simp) hS ?_
                  simp only [Act.put, List.setIfInBounds_toArray, List.set_cons_zero, List.set_cons_succ]
                  refine wpAnyL_take 19 72 (.string A2) [] rfl rfl (by kernel_rfl) (by kernel_rfl) (by kernel_rfl) (by kernel_rfl) (by kernel_rfl) (fun _ _ _ h => h) (by rfl) (fun u _ => by go_simp) hS ?_
                  simp only [Act.put, List.setIfInBounds_toArray, List.set_cons_zero, List.set_cons_succ]
                  refine wpAnyL_take 20 73 (.string (A1 ++ A2)) [] rfl rfl (by kernel_rfl) (by kernel_rfl) (by kernel_rfl) (by kernel_rfl) (by kernel_rfl) (fun _ _ _ h => h) (by rfl) (fun u _ => by go_simp) hS ?_
                  simp only [Act.put, List.setIfInBounds_toArray, List.set_cons_zero, List.set_cons_succ]
                  refine wpAnyL_take 21 74 (.pointer (some ⟨gl, pn, none⟩)) [] rfl rfl (by kernel_rfl) (by kernel_rfl) (by kernel_rfl) (by kernel_rfl) (by kernel_rfl) (fun _ _ _ h => h) (by rfl) (fun u _ => by go_simp) hS ?_
                  simp only [Act.put, List.setIfInBounds_toArray, List.set_cons_zero, List.set_cons_succ]
                  refine wpAnyL_one (i := 22) (by kernel_rfl) rfl (by rfl) fun K hK => ?_
                  obtain ⟨s1, s2, s3, s4, s5⟩ := hS
                  go_simp
                  refine hK _ _ (fun h => absurd rfl h) ?_
                  clear hK K
                  refine wpAnyL_done (by kernel_rfl) ?_ _
                  go_wp2
                  go_roundw
                  case rel => exact ⟨i + 1, by omega, by go_num, (unhide HNX).1.keep fun _ _ => rfl, (unhide HNX).2.1.drew, (unhide HNX).2.2⟩
                  case measure => simp [intOf]; omega
                · have hkI : (i : Int) < (kn : Int) := by rw [unhide HKN]; omega
                  have HSH := hide hsh
                  clear hsh
                  go_wp2_with (first
                    | (refine wpList_load_mid (by rfl) 95 (.tmp 23) (by rfl) g2 (i * 2) (by rfl) C.toList _ (unhide HR2) refWUnd rfl (by rw [Array.length_toList, (unhide HC1).1]; exact refWInfo) ?_; simp only [Act.put, List.setIfInBounds_toArray, List.set_cons_zero, List.set_cons_succ, Array.toArray_toList])
                    | (refine wpList_alloc_row (by rfl) 95 (by rfl) (some 7) (by rfl) N7 (by exact (unhide HN7).symm) _ zRefW ?_; intro W6 HX6 HB6 HS6; simp only [Act.put, List.setIfInBounds_toArray, List.set_cons_zero, List.set_cons_succ])
                    | (refine wpList_store_row (by rfl) 95 (.tmp 7) (.tmp 24) (by rfl) N7 C (by rfl) (by rfl) 95 _ (unhide HX6) (by rw [(unhide HC1).1]; exact refWInfo) (by rw [(unhide HC1).1]; rfl) (unhide HC1).2.1 ?_
                       have HX7 := hide (heapRow_same (unhide HX6) C)
                       have HB7 := hide (belowRow (unhide HB6) (Nat.le_refl N7) C)
                       generalize W6.setRow N7 C = W7 at *
                       obtain ⟨HS7, HNX, q0, q1, q2⟩ := unhide HGO W7 (unhide HX7) (unhide HB7)
                       obtain ⟨kg, ko, hkao, hkce⟩ := unhide HKC W7 (unhide HB7) hik
                       subst hkao
                       rw [hkb] at hkce
                       simp only [Act.put]))
                  rw [show (Value.int .i64 0) = .int .i64 (sn : Int) from by rw [show (0 : Int) = (sn : Int) from by rw [unhide HSH]; rfl]]
                  refine wp_region_last (fun u' => u'.cell? ⟨M, 0, none⟩ = some (.slice (some ⟨gl, 0, none⟩) P cl) ∧ u'.cell? ⟨N7, 0, none⟩ = some (.int .i64 (pn : Int)) ∧ u'.cell? ⟨N7, 1, none⟩ = some (.string SP) ∧ u'.cell? ⟨gl, pn, none⟩ = some (.string SL) ∧ u'.frozen? ⟨gl, pn, none⟩ = false) 22 (by kernel_rfl) (unhide HS7) fun hS => ?_
                  refine wpAnyL_take 0 53 (.pointer (some ⟨M, 0, none⟩)) [] rfl rfl (by kernel_rfl) (by kernel_rfl) (by kernel_rfl) (by kernel_rfl) (by kernel_rfl) (fun _ _ _ h => h) (by rfl) (fun u _ => by go_simp) hS ?_
                  simp only [Act.put, List.setIfInBounds_toArray, List.set_cons_zero, List.set_cons_succ]
                  refine wpAnyL_take 1 54 (.pointer (some ⟨M, 0, none⟩)) [] rfl rfl (by kernel_rfl) (by kernel_rfl) (by kernel_rfl) (by kernel_rfl) (by kernel_rfl) (fun _ _ _ h => h) (by rfl) (fun u _ => by go_simp) hS ?_
                  simp only [Act.put, List.setIfInBounds_toArray, List.set_cons_zero, List.set_cons_succ]
                  refine wpAnyL_take 2 55 (.pointer (some ⟨M, 0, none⟩)) [] rfl rfl (by kernel_rfl) (by kernel_rfl) (by kernel_rfl) (by kernel_rfl) (by kernel_rfl) (fun _ _ _ h => h) (by rfl) (fun u _ => by go_simp) hS ?_
                  simp only [Act.put, List.setIfInBounds_toArray, List.set_cons_zero, List.set_cons_succ]
                  refine wpAnyL_take 3 56 (.slice (some ⟨gl, 0, none⟩) P cl) [] rfl rfl (by kernel_rfl) (by kernel_rfl) (by kernel_rfl) (by kernel_rfl) (by kernel_rfl) (fun _ _ _ h => h) (by rfl) (fun u hu => by obtain ⟨s1, s2, s3, s4, s5⟩ := hu; go_simp) hS ?_
                  simp only [Act.put, List.setIfInBounds_toArray, List.set_cons_zero, List.set_cons_succ]
                  refine wpAnyL_take 4 57 (.pointer (some ⟨N7, 0, none⟩)) [] rfl rfl (by kernel_rfl) (by kernel_rfl) (by kernel_rfl) (by kernel_rfl) (by kernel_rfl) (fun _ _ _ h => h) (by rfl) (fun u _ => by go_simp) hS ?_
                  simp only [Act.put, List.setIfInBounds_toArray, List.set_cons_zero, List.set_cons_succ]
                  refine wpAnyL_take 5 58 (.int .i64 (pn : Int)) [] rfl rfl (by kernel_rfl) (by kernel_rfl) (by kernel_rfl) (by kernel_rfl) (by kernel_rfl) (fun _ _ _ h => h) (by rfl) (fun u hu => by obtain ⟨s1, s2, s3, s4, s5⟩ := hu; go_simp) hS ?_
                  simp only [Act.put, List.setIfInBounds_toArray, List.set_cons_zero, List.set_cons_succ]
                  refine wpAnyL_take 6 59 (.pointer (some ⟨N7, 1, none⟩)) [] rfl rfl (by kernel_rfl) (by kernel_rfl) (by kernel_rfl) (by kernel_rfl) (by kernel_rfl) (fun _ _ _ h => h) (by rfl) (fun u _ => by go_simp) hS ?_
                  simp only [Act.put, List.setIfInBounds_toArray, List.set_cons_zero, List.set_cons_succ]
                  refine wpAnyL_take 7 60 (.string SP) [] rfl rfl (by kernel_rfl) (by kernel_rfl) (by kernel_rfl) (by kernel_rfl) (by kernel_rfl) (fun _ _ _ h => h) (by rfl) (fun u hu => by obtain ⟨s1, s2, s3, s4, s5⟩ := hu; go_simp) hS ?_
                  simp only [Act.put, List.setIfInBounds_toArray, List.set_cons_zero, List.set_cons_succ]
                  refine wpAnyL_take 8 61 (.int .i64 (sn : Int)) [] rfl rfl (by kernel_rfl) (by kernel_rfl) (by kernel_rfl) (by kernel_rfl) (by kernel_rfl) (fun _ _ _ h => h) (by rfl) (fun u _ => by go_simp) hS ?_
                  simp only [Act.put, List.setIfInBounds_toArray, List.set_cons_zero, List.set_cons_succ]
                  refine wpAnyL_take 9 62 (.string A1) [] rfl rfl (by kernel_rfl) (by kernel_rfl) (by kernel_rfl) (by kernel_rfl) (by kernel_rfl) (fun _ _ _ h => h) (by rfl) (fun u _ => by go_simp) hS ?_
                  simp only [Act.put, List.setIfInBounds_toArray, List.set_cons_zero, List.set_cons_succ]
                  refine wpAnyL_take 10 63 (.pointer (some ⟨M, 0, none⟩)) [] rfl rfl (by kernel_rfl) (by kernel_rfl) (by kernel_rfl) (by kernel_rfl) (by kernel_rfl) (fun _ _ _ h => h) (by rfl) (fun u _ => by go_simp) hS ?_
                  simp only [Act.put, List.setIfInBounds_toArray, List.set_cons_zero, List.set_cons_succ]
                  refine wpAnyL_take 11 64 (.pointer (some ⟨M, 0, none⟩)) [] rfl rfl (by kernel_rfl) (by kernel_rfl) (by kernel_rfl) (by kernel_rfl) (by kernel_rfl) (fun _ _ _ h => h) (by rfl) (fun u _ => by go_simp) hS ?_
                  simp only [Act.put, List.setIfInBounds_toArray, List.set_cons_zero, List.set_cons_succ]
                  refine wpAnyL_take 12 65 (.pointer (some ⟨M, 0, none⟩)) [] rfl rfl (by kernel_rfl) (by kernel_rfl) (by kernel_rfl) (by kernel_rfl) (by kernel_rfl) (fun _ _ _ h => h) (by rfl) (fun u _ => by go_simp) hS ?_
                  simp only [Act.put, List.setIfInBounds_toArray, List.set_cons_zero, List.set_cons_succ]
                  refine wpAnyL_take 13 66 (.slice (some ⟨gl, 0, none⟩) P cl) [] rfl rfl (by kernel_rfl) (by kernel_rfl) (by kernel_rfl) (by kernel_rfl) (by kernel_rfl) (fun _ _ _ h => h) (by rfl) (fun u hu => by obtain ⟨s1, s2, s3, s4, s5⟩ := hu; go_simp) hS ?_
                  simp only [Act.put, List.setIfInBounds_toArray, List.set_cons_zero, List.set_cons_succ]
                  refine wpAnyL_take 14 67 (.pointer (some ⟨N7, 0, none⟩)) [] rfl rfl (by kernel_rfl) (by kernel_rfl) (by kernel_rfl) (by kernel_rfl) (by kernel_rfl) (fun _ _ _ h => h) (by rfl) (fun u _ => by go_simp) hS ?_
                  simp only [Act.put, List.setIfInBounds_toArray, List.set_cons_zero, List.set_cons_succ]
                  refine wpAnyL_take 15 68 (.int .i64 (pn : Int)) [] rfl rfl (by kernel_rfl) (by kernel_rfl) (by kernel_rfl) (by kernel_rfl) (by kernel_rfl) (fun _ _ _ h => h) (by rfl) (fun u hu => by obtain ⟨s1, s2, s3, s4, s5⟩ := hu; go_simp) hS ?_
                  simp only [Act.put, List.setIfInBounds_toArray, List.set_cons_zero, List.set_cons_succ]
                  refine wpAnyL_take 16 69 (.pointer (some ⟨gl, pn, none⟩)) [] rfl rfl (by kernel_rfl) (by kernel_rfl) (by kernel_rfl) (by kernel_rfl) (by kernel_rfl) (fun _ _ _ h => h) (by rfl) (fun u _ => by go_simp) hS ?_
                  simp only [Act.put, List.setIfInBounds_toArray, List.set_cons_zero, List.set_cons_succ]
                  refine wpAnyL_take 17 70 (.string SL) [] rfl rfl (by kernel_rfl) (by kernel_rfl) (by kernel_rfl) (by kernel_rfl) (by kernel_rfl) (fun _ _ _ h => h) (by rfl) (fun u hu => by obtain ⟨s1, s2, s3, s4, s5⟩ := hu; go_simp) hS ?_
                  simp only [Act.put, List.setIfInBounds_toArray, List.set_cons_zero, List.set_cons_succ]
                  refine wpAnyL_take 18 71 (.int .i64 (sn : Int)) [] rfl rfl (by kernel_rfl) (by kernel_rfl) (by kernel_rfl) (by kernel_rfl) (by kernel_rfl) (fun _ _ _ h => h) (by rfl) (fun u _ => by go_simp) hS ?_
                  simp only [Act.put, List.setIfInBounds_toArray, List.set_cons_zero, List.set_cons_succ]
                  refine wpAnyL_take 19 72 (.string A2) [] rfl rfl (by kernel_rfl) (by kernel_rfl) (by kernel_rfl) (by kernel_rfl) (by kernel_rfl) (fun _ _ _ h => h) (by rfl) (fun u _ => by go_simp) hS ?_
                  simp only [Act.put, List.setIfInBounds_toArray, List.set_cons_zero, List.set_cons_succ]
                  refine wpAnyL_take 20 73 (.string (A1 ++ A2)) [] rfl rfl (by kernel_rfl) (by kernel_rfl) (by kernel_rfl) (by kernel_rfl) (by kernel_rfl) (fun _ _ _ h => h) (by rfl) (fun u _ => by go_simp) hS ?_
                  simp only [Act.put, List.setIfInBounds_toArray, List.set_cons_zero, List.set_cons_succ]
                  refine wpAnyL_take 21 74 (.pointer (some ⟨gl, pn, none⟩)) [] rfl rfl (by kernel_rfl) (by kernel_rfl) (by kernel_rfl) (by kernel_rfl) (by kernel_rfl) (fun _ _ _ h => h) (by rfl) (fun u _ => by go_simp) hS ?_
                  simp only [Act.put, List.setIfInBounds_toArray, List.set_cons_zero, List.set_cons_succ]
                  refine wpAnyL_one (i := 22) (by kernel_rfl) rfl (by rfl) fun K hK => ?_
                  obtain ⟨s1, s2, s3, s4, s5⟩ := hS
                  go_simp
                  refine hK _ _ (fun h => absurd rfl h) ?_
                  clear hK K
                  refine wpAnyL_done (by kernel_rfl) ?_ _
                  go_wp2
                  go_roundw
                  case rel => exact ⟨i + 1, by omega, by go_num, (unhide HNX).1.keep fun _ _ => rfl, (unhide HNX).2.1.drew, (unhide HNX).2.2⟩
                  case measure => simp [intOf]; omega
              · have hkO : ¬ (i : Int) < (kn : Int) := by rw [unhide HKN]; omega
                have HSH := hide hsh
                clear hsh
                go_wp2_with (first
                  | (refine wpList_load_mid (by rfl) 95 (.tmp 23) (by rfl) g2 (i * 2) (by rfl) C.toList _ (unhide HR2) refWUnd rfl (by rw [Array.length_toList, (unhide HC1).1]; exact refWInfo) ?_; simp only [Act.put, List.setIfInBounds_toArray, List.set_cons_zero, List.set_cons_succ, Array.toArray_toList])
                  | (refine wpList_alloc_row (by rfl) 95 (by rfl) (some 7) (by rfl) N7 (by exact (unhide HN7).symm) _ zRefW ?_; intro W6 HX6 HB6 HS6; simp only [Act.put, List.setIfInBounds_toArray, List.set_cons_zero, List.set_cons_succ])
                  | (refine wpList_store_row (by rfl) 95 (.tmp 7) (.tmp 24) (by rfl) N7 C (by rfl) (by rfl) 95 _ (unhide HX6) (by rw [(unhide HC1).1]; exact refWInfo) (by rw [(unhide HC1).1]; rfl) (unhide HC1).2.1 ?_
                     have HX7 := hide (heapRow_same (unhide HX6) C)
                     have HB7 := hide (belowRow (unhide HB6) (Nat.le_refl N7) C)
                     generalize W6.setRow N7 C = W7 at *
                     obtain ⟨HS7, HNX, q0, q1, q2⟩ := unhide HGO W7 (unhide HX7) (unhide HB7)
                     simp only [Act.put]))
                rw [show (Value.int .i64 0) = .int .i64 (sn : Int) from by rw [show (0 : Int) = (sn : Int) from by rw [unhide HSH]; rfl]]
                refine wp_region_last (fun u' => u'.cell? ⟨M, 0, none⟩ = some (.slice (some ⟨gl, 0, none⟩) P cl) ∧ u'.cell? ⟨N7, 0, none⟩ = some (.int .i64 (pn : Int)) ∧ u'.cell? ⟨N7, 1, none⟩ = some (.string SP) ∧ u'.cell? ⟨gl, pn, none⟩ = some (.string SL) ∧ u'.frozen? ⟨gl, pn, none⟩ = false) 22 (by kernel_rfl) (unhide HS7) fun hS => ?_
                refine wpAnyL_take 0 53 (.pointer (some ⟨M, 0, none⟩)) [] rfl rfl (by kernel_rfl) (by kernel_rfl) (by kernel_rfl) (by kernel_rfl) (by kernel_rfl) (fun _ _ _ h => h) (by rfl) (fun u _ => by go_simp) hS ?_
                simp only [Act.put, List.setIfInBounds_toArray, List.set_cons_zero, List.set_cons_succ]
                refine wpAnyL_take 1 54 (.pointer (some ⟨M, 0, none⟩)) [] rfl rfl (by kernel_rfl) (by kernel_rfl) (by kernel_rfl) (by kernel_rfl) (by kernel_rfl) (fun _ _ _ h => h) (by rfl) (fun u _ => by go_simp) hS ?_
                simp only [Act.put, List.setIfInBounds_toArray, List.set_cons_zero, List.set_cons_succ]
                refine wpAnyL_take 2 55 (.pointer (some ⟨M, 0, none⟩)) [] rfl rfl (by kernel_rfl) (by kernel_rfl) (by kernel_rfl) (by kernel_rfl) (by kernel_rfl) (fun _ _ _ h => h) (by rfl) (fun u _ => by go_simp) hS ?_
                simp only [Act.put, List.setIfInBounds_toArray, List.set_cons_zero, List.set_cons_succ]
                refine wpAnyL_take 3 56 (.slice (some ⟨gl, 0, none⟩) P cl) [] rfl rfl (by kernel_rfl) (by kernel_rfl) (by kernel_rfl) (by kernel_rfl) (by kernel_rfl) (fun _ _ _ h => h) (by rfl) (fun u hu => by obtain ⟨s1, s2, s3, s4, s5⟩ := hu; go_simp) hS ?_
                simp only [Act.put, List.setIfInBounds_toArray, List.set_cons_zero, List.set_cons_succ]
                refine wpAnyL_take 4 57 (.pointer (some ⟨N7, 0, none⟩)) [] rfl rfl (by kernel_rfl) (by kernel_rfl) (by kernel_rfl) (by kernel_rfl) (by kernel_rfl) (fun _ _ _ h => h) (by rfl) (fun u _ => by go_simp) hS ?_
                simp only [Act.put, List.setIfInBounds_toArray, List.set_cons_zero, List.set_cons_succ]
                refine wpAnyL_take 5 58 (.int .i64 (pn : Int)) [] rfl rfl (by kernel_rfl) (by kernel_rfl) (by kernel_rfl) (by kernel_rfl) (by kernel_rfl) (fun _ _ _ h => h) (by rfl) (fun u hu => by obtain ⟨s1, s2, s3, s4, s5⟩ := hu; go_simp) hS ?_
                simp only [Act.put, List.setIfInBounds_toArray, List.set_cons_zero, List.set_cons_succ]
                refine wpAnyL_take 6 59 (.pointer (some ⟨N7, 1, none⟩)) [] rfl rfl (by kernel_rfl) (by kernel_rfl) (by kernel_rfl) (by kernel_rfl) (by kernel_rfl) (fun _ _ _ h => h) (by rfl) (fun u _ => by go_simp) hS ?_
                simp only [Act.put, List.setIfInBounds_toArray, List.set_cons_zero, List.set_cons_succ]
                refine wpAnyL_take 7 60 (.string SP) [] rfl rfl (by kernel_rfl) (by kernel_rfl) (by kernel_rfl) (by kernel_rfl) (by kernel_rfl) (fun _ _ _ h => h) (by rfl) (fun u hu => by obtain ⟨s1, s2, s3, s4, s5⟩ := hu; go_simp) hS ?_
                simp only [Act.put, List.setIfInBounds_toArray, List.set_cons_zero, List.set_cons_succ]
                refine wpAnyL_take 8 61 (.int .i64 (sn : Int)) [] rfl rfl (by kernel_rfl) (by kernel_rfl) (by kernel_rfl) (by kernel_rfl) (by kernel_rfl) (fun _ _ _ h => h) (by rfl) (fun u _ => by go_simp) hS ?_
                simp only [Act.put, List.setIfInBounds_toArray, List.set_cons_zero, List.set_cons_succ]
                refine wpAnyL_take 9 62 (.string A1) [] rfl rfl (by kernel_rfl) (by kernel_rfl) (by kernel_rfl) (by kernel_rfl) (by kernel_rfl) (fun _ _ _ h => h) (by rfl) (fun u _ => by go_simp) hS ?_
                simp only [Act.put, List.setIfInBounds_toArray, List.set_cons_zero, List.set_cons_succ]
                refine wpAnyL_take 10 63 (.pointer (some ⟨M, 0, none⟩)) [] rfl rfl (by kernel_rfl) (by kernel_rfl) (by kernel_rfl) (by kernel_rfl) (by kernel_rfl) (fun _ _ _ h => h) (by rfl) (fun u _ => by go_simp) hS ?_
                simp only [Act.put, List.setIfInBounds_toArray, List.set_cons_zero, List.set_cons_succ]
                refine wpAnyL_take 11 64 (.pointer (some ⟨M, 0, none⟩)) [] rfl rfl (by kernel_rfl) (by kernel_rfl) (by kernel_rfl) (by kernel_rfl) (by kernel_rfl) (fun _ _ _ h => h) (by rfl) (fun u _ => by go_simp) hS ?_
                simp only [Act.put, List.setIfInBounds_toArray, List.set_cons_zero, List.set_cons_succ]
                refine wpAnyL_take 12 65 (.pointer (some ⟨M, 0, none⟩)) [] rfl rfl (by kernel_rfl) (by kernel_rfl) (by kernel_rfl) (by kernel_rfl) (by kernel_rfl) (fun _ _ _ h => h) (by rfl) (fun u _ => by go_simp) hS ?_
                simp only [Act.put, List.setIfInBounds_toArray, List.set_cons_zero, List.set_cons_succ]
                refine wpAnyL_take 13 66 (.slice (some ⟨gl, 0, none⟩) P cl) [] rfl rfl (by kernel_rfl) (by kernel_rfl) (by kernel_rfl) (by kernel_rfl) (by kernel_rfl) (fun _ _ _ h => h) (by rfl) (fun u hu => by obtain ⟨s1, s2, s3, s4, s5⟩ := hu; go_simp) hS ?_
                simp only [Act.put, List.setIfInBounds_toArray, List.set_cons_zero, List.set_cons_succ]
                refine wpAnyL_take 14 67 (.pointer (some ⟨N7, 0, none⟩)) [] rfl rfl (by kernel_rfl) (by kernel_rfl) (by kernel_rfl) (by kernel_rfl) (by kernel_rfl) (fun _ _ _ h => h) (by rfl) (fun u _ => by go_simp) hS ?_
                simp only [Act.put, List.setIfInBounds_toArray, List.set_cons_zero, List.set_cons_succ]
                refine wpAnyL_take 15 68 (.int .i64 (pn : Int)) [] rfl rfl (by kernel_rfl) (by kernel_rfl) (by kernel_rfl) (by kernel_rfl) (by kernel_rfl) (fun _ _ _ h => h) (by rfl) (fun u hu => by obtain ⟨s1, s2, s3, s4, s5⟩ := hu; go_simp) hS ?_
                simp only [Act.put, List.setIfInBounds_toArray, List.set_cons_zero, List.set_cons_succ]
                refine wpAnyL_take 16 69 (.pointer (some ⟨gl, pn, none⟩)) [] rfl rfl (by kernel_rfl) (by kernel_rfl) (by kernel_rfl) (by kernel_rfl) (by kernel_rfl) (fun _ _ _ h => h) (by rfl) (fun u _ => by go_simp) hS ?_
                simp only [Act.put, List.setIfInBounds_toArray, List.set_cons_zero, List.set_cons_succ]
                refine wpAnyL_take 17 70 (.string SL) [] rfl rfl (by kernel_rfl) (by kernel_rfl) (by kernel_rfl) (by kernel_rfl) (by kernel_rfl) (fun _ _ _ h => h) (by rfl) (fun u hu => by obtain ⟨s1, s2, s3, s4, s5⟩ := hu; go_simp) hS ?_
                simp only [Act.put, List.setIfInBounds_toArray, List.set_cons_zero, List.set_cons_succ]
                refine wpAnyL_take 18 71 (.int .i64 (sn : Int)) [] rfl rfl (by kernel_rfl) (by kernel_rfl) (by kernel_rfl) (by kernel_rfl) (by kernel_rfl) (fun _ _ _ h => h) (by rfl) (fun u _ => by go_simp) hS ?_
                simp only [Act.put, List.setIfInBounds_toArray, List.set_cons_zero, List.set_cons_succ]
                refine wpAnyL_take 19 72 (.string A2) [] rfl rfl (by kernel_rfl) (by kernel_rfl) (by kernel_rfl) (by kernel_rfl) (by kernel_rfl) (fun _ _ _ h => h) (by rfl) (fun u _ => by go_simp) hS ?_
                simp only [Act.put, List.setIfInBounds_toArray, List.set_cons_zero, List.set_cons_succ]
                refine wpAnyL_take 20 73 (.string (A1 ++ A2)) [] rfl rfl (by kernel_rfl) (by kernel_rfl) (by kernel_rfl) (by kernel_rfl) (by kernel_rfl) (fun _ _ _ h => h) (by rfl) (fun u _ => by go_simp) hS ?_
                simp only [Act.put, List.setIfInBounds_toArray, List.set_cons_zero, List.set_cons_succ]
                refine wpAnyL_take 21 74 (.pointer (some ⟨gl, pn, none⟩)) [] rfl rfl (by kernel_rfl) (by kernel_rfl) (by kernel_rfl) (by kernel_rfl) (by kernel_rfl) (fun _ _ _ h => h) (by rfl) (fun u _ => by go_simp) hS ?_
                simp only [Act.put, List.setIfInBounds_toArray, List.set_cons_zero, List.set_cons_succ]
                refine wpAnyL_one (i := 22) (by kernel_rfl) rfl (by rfl) fun K hK => ?_
                obtain ⟨s1, s2, s3, s4, s5⟩ := hS
                go_simp
                refine hK _ _ (fun h => absurd rfl h) ?_
                clear hK K
                refine wpAnyL_done (by kernel_rfl) ?_ _
                go_wp2
                go_roundw
                case rel => exact ⟨i + 1, by omega, by go_num, (unhide HNX).1.keep fun _ _ => rfl, (unhide HNX).2.1.drew, (unhide HNX).2.2⟩
                case measure => simp [intOf]; omega
          · by_cases hc1 : cut < 128
            · have hc2 : 0 < cut := by omega
              by_cases hik : i < ks.length
              · cases hkb : ks[i]
                · have hkI : (i : Int) < (kn : Int) := by rw [unhide HKN]; omega
                  have HSH := hide hsh
                  clear hsh
                  go_wp2_with (first
                    | (refine wpList_load_mid (by rfl) 95 (.tmp 23) (by rfl) g2 (i * 2) (by rfl) C.toList _ (unhide HR2) refWUnd rfl (by rw [Array.length_toList, (unhide HC1).1]; exact refWInfo) ?_; simp only [Act.put, List.setIfInBounds_toArray, List.set_cons_zero, List.set_cons_succ, Array.toArray_toList])
                    | (refine wpList_alloc_row (by rfl) 95 (by rfl) (some 7) (by rfl) N7 (by exact (unhide HN7).symm) _ zRefW ?_; intro W6 HX6 HB6 HS6; simp only [Act.put, List.setIfInBounds_toArray, List.set_cons_zero, List.set_cons_succ])
                    | (refine wpList_store_row (by rfl) 95 (.tmp 7) (.tmp 24) (by rfl) N7 C (by rfl) (by rfl) 95 _ (unhide HX6) (by rw [(unhide HC1).1]; exact refWInfo) (by rw [(unhide HC1).1]; rfl) (unhide HC1).2.1 ?_
                       have HX7 := hide (heapRow_same (unhide HX6) C)
                       have HB7 := hide (belowRow (unhide HB6) (Nat.le_refl N7) C)
                       generalize W6.setRow N7 C = W7 at *
                       obtain ⟨HS7, HNX, q0, q1, q2⟩ := unhide HGO W7 (unhide HX7) (unhide HB7)
                       obtain ⟨kg, ko, hkao, hkce⟩ := unhide HKC W7 (unhide HB7) hik
                       subst hkao
                       rw [hkb] at hkce
                       simp only [Act.put]))
                  rw [show (Value.int .i64 (8 * cut)) = .int .i64 (sn : Int) from by rw [show (8 * cut : Int) = (sn : Int) from by rw [unhide HSH]; omega]]
                  refine wp_region_last (fun u' => u'.cell? ⟨M, 0, none⟩ = some (.slice (some ⟨gl, 0, none⟩) P cl) ∧ u'.cell? ⟨N7, 0, none⟩ = some (.int .i64 (pn : Int)) ∧ u'.cell? ⟨N7, 1, none⟩ = some (.string SP) ∧ u'.cell? ⟨gl, pn, none⟩ = some (.string SL) ∧ u'.frozen? ⟨gl, pn, none⟩ = false) 22 (by kernel_rfl) (unhide HS7) fun hS => ?_
                  refine wpAnyL_take 0 53 (.pointer (some ⟨M, 0, none⟩)) [] rfl rfl (by kernel_rfl) (by kernel_rfl) (by kernel_rfl) (by kernel_rfl) (by kernel_rfl) (fun _ _ _ h => h) (by rfl) (fun u _ => by go_simp) hS ?_
                  simp only [Act.put, List.setIfInBounds_toArray, List.set_cons_zero, List.set_cons_succ]
                  refine wpAnyL_take 1 54 (.pointer (some ⟨M, 0, none⟩)) [] rfl rfl (by kernel_rfl) (by kernel_rfl) (by kernel_rfl) (by kernel_rfl) (by kernel_rfl) (fun _ _ _ h => h) (by rfl) (fun u _ => by go_simp) hS ?_
                  simp only [Act.put, List.setIfInBounds_toArray, List.set_cons_zero, List.set_cons_succ]
                  refine wpAnyL_take 2 55 (.pointer (some ⟨M, 0, none⟩)) [] rfl rfl (by kernel_rfl) (by kernel_rfl) (by kernel_rfl) (by kernel_rfl) (by kernel_rfl) (fun _ _ _ h => h) (by rfl) (fun u _ => by go_simp) hS ?_
                  simp only [Act.put, List.setIfInBounds_toArray, List.set_cons_zero, List.set_cons_succ]
                  refine wpAnyL_take 3 56 (.slice (some ⟨gl, 0, none⟩) P cl) [] rfl rfl (by kernel_rfl) (by kernel_rfl) (by kernel_rfl) (by kernel_rfl) (by kernel_rfl) (fun _ _ _ h => h) (by rfl) (fun u hu => by obtain ⟨s1, s2, s3, s4, s5⟩ := hu; go_simp) hS ?_
                  simp only [Act.put, List.setIfInBounds_toArray, List.set_cons_zero, List.set_cons_succ]
                  refine wpAnyL_take 4 57 (.pointer (some ⟨N7, 0, none⟩)) [] rfl rfl (by kernel_rfl) (by kernel_rfl) (by kernel_rfl) (by kernel_rfl) (by kernel_rfl) (fun _ _ _ h => h) (by rfl) (fun u _ => by go_simp) hS ?_
                  simp only [Act.put, List.setIfInBounds_toArray, List.set_cons_zero, List.set_cons_succ]
                  refine wpAnyL_take 5 58 (.int .i64 (pn : Int)) [] rfl rfl (by kernel_rfl) (by kernel_rfl) (by kernel_rfl) (by kernel_rfl) (by kernel_rfl) (fun _ _ _ h => h) (by rfl) (fun u hu => by obtain ⟨s1, s2, s3, s4, s5⟩ := hu; go_simp) hS ?_
                  simp only [Act.put, List.setIfInBounds_toArray, List.set_cons_zero, List.set_cons_succ]
                  refine wpAnyL_take 6 59 (.pointer (some ⟨N7, 1, none⟩)) [] rfl rfl (by kernel_rfl) (by kernel_rfl) (by kernel_rfl) (by kernel_rfl) (by kernel_rfl) (fun _ _ _ h => h) (by rfl) (fun u _ => by go_simp) hS ?_
                  simp only [Act.put, List.setIfInBounds_toArray, List.set_cons_zero, List.set_cons_succ]
                  refine wpAnyL_take 7 60 (.string SP) [] rfl rfl (by kernel_rfl) (by kernel_rfl) (by kernel_rfl) (by kernel_rfl) (by kernel_rfl) (fun _ _ _ h => h) (by rfl) (fun u hu => by obtain ⟨s1, s2, s3, s4, s5⟩ := hu; go_simp) hS ?_
                  simp only [Act.put, List.setIfInBounds_toArray, List.set_cons_zero, List.set_cons_succ]
                  refine wpAnyL_take 8 61 (.int .i64 (sn : Int)) [] rfl rfl (by kernel_rfl) (by kernel_rfl) (by kernel_rfl) (by kernel_rfl) (by kernel_rfl) (fun _ _ _ h => h) (by rfl) (fun u _ => by go_simp) hS ?_
                  simp only [Act.put, List.setIfInBounds_toArray, List.set_cons_zero, List.set_cons_succ]
                  refine wpAnyL_take 9 62 (.string A1) [] rfl rfl (by kernel_rfl) (by kernel_rfl) (by kernel_rfl) (by kernel_rfl) (by kernel_rfl) (fun _ _ _ h => h) (by rfl) (fun u _ => by go_simp) hS ?_
                  simp only [Act.put, List.setIfInBounds_toArray, List.set_cons_zero, List.set_cons_succ]
                  refine wpAnyL_take 10 63 (.pointer (some ⟨M, 0, none⟩)) [] rfl rfl (by kernel_rfl) (by kernel_rfl) (by kernel_rfl) (by kernel_rfl) (by kernel_rfl) (fun _ _ _ h => h) (by rfl) (fun u _ => by go_simp) hS ?_
                  simp only [Act.put, List.setIfInBounds_toArray, List.set_cons_zero, List.set_cons_succ]
                  refine wpAnyL_take 11 64 (.pointer (some ⟨M, 0, none⟩)) [] rfl rfl (by kernel_rfl) (by kernel_rfl) (by kernel_rfl) (by kernel_rfl) (by kernel_rfl) (fun _ _ _ h => h) (by rfl) (fun u _ => by go_simp) hS ?_
                  simp only [Act.put, List.setIfInBounds_toArray, List.set_cons_zero, List.set_cons_succ]
                  refine wpAnyL_take 12 65 (.pointer (some ⟨M, 0, none⟩)) [] rfl rfl (by kernel_rfl) (by kernel_rfl) (by kernel_rfl) (by kernel_rfl) (by kernel_rfl) (fun _ _ _ h => h) (by rfl) (fun u _ => by go_simp) hS ?_
                  simp only [Act.put, List.setIfInBounds_toArray, List.set_cons_zero, List.set_cons_succ]
                  refine wpAnyL_take 13 66 (.slice (some ⟨gl, 0, none⟩) P cl) [] rfl rfl (by kernel_rfl) (by kernel_rfl) (by kernel_rfl) (by kernel_rfl) (by kernel_rfl) (fun _ _ _ h => h) (by rfl) (fun u hu => by obtain ⟨s1, s2, s3, s4, s5⟩ := hu; go_simp) hS ?_
                  simp only [Act.put, List.setIfInBounds_toArray, List.set_cons_zero, List.set_cons_succ]
                  refine wpAnyL_take 14 67 (.pointer (some ⟨N7, 0, none⟩)) [] rfl rfl (by kernel_rfl) (by kernel_rfl) (by kernel_rfl) (by kernel_rfl) (by kernel_rfl) (fun _ _ _ h => h) (by rfl) (fun u _ => by go_simp) hS ?_
                  simp only [Act.put, List.setIfInBounds_toArray, List.set_cons_zero, List.set_cons_succ]
                  refine wpAnyL_take 15 68 (.int .i64 (pn : Int)) [] rfl rfl (by kernel_rfl) (by kernel_rfl) (by kernel_rfl) (by kernel_rfl) (by kernel_rfl) (fun _ _ _ h => h) (by rfl) (fun u hu => by obtain ⟨s1, s2, s3, s4, s5⟩ := hu; go_simp) hS ?_
                  simp only [Act.put, List.setIfInBounds_toArray, List.set_cons_zero, List.set_cons_succ]
                  refine wpAnyL_take 16 69 (.pointer (some ⟨gl, pn, none⟩)) [] rfl rfl (by kernel_rfl) (by kernel_rfl) (by kernel_rfl) (by kernel_rfl) (by kernel_rfl) (fun _ _ _ h => h) (by rfl) (fun u _ => by go_simp) hS ?_
                  simp only [Act.put, List.setIfInBounds_toArray, List.set_cons_zero, List.set_cons_succ]
                  refine wpAnyL_take 17 70 (.string SL) [] rfl rfl (by kernel_rfl) (by kernel_rfl) (by kernel_rfl) (by kernel_rfl) (by kernel_rfl) (fun _ _ _ h => h) (by rfl) (fun u hu => by obtain ⟨s1, s2, s3, s4, s5⟩ := hu; go_simp) hS ?_
                  simp only [Act.put, List.setIfInBounds_toArray, List.set_cons_zero, List.set_cons_succ]
                  refine wpAnyL_take 18 71 (.int .i64 (sn : Int)) [] rfl rfl (by kernel_rfl) (by kernel_rfl) (by kernel_rfl) (by kernel_rfl) (by kernel_rfl) (fun _ _ _ h => h) (by rfl) (fun u _ => by go_simp) hS ?_
                  simp only [Act.put, List.setIfInBounds_toArray, List.set_cons_zero, List.set_cons_succ]
                  refine wpAnyL_take 19 72 (.string A2) [] rfl rfl (by kernel_rfl) (by kernel_rfl) (by kernel_rfl) (by kernel_rfl) (by kernel_rfl) (fun _ _ _ h => h) (by rfl) (fun u _ => by go_simp) hS ?_
                  simp only [Act.put, List.setIfInBounds_toArray, List.set_cons_zero, List.set_cons_succ]
                  refine wpAnyL_take 20 73 (.string (A1 ++ A2)) [] rfl rfl (by kernel_rfl) (by kernel_rfl) (by kernel_rfl) (by kernel_rfl) (by kernel_rfl) (fun _ _ _ h => h) (by rfl) (fun u _ => by go_simp) hS ?_
                  simp only [Act.put, List.setIfInBounds_toArray, List.set_cons_zero, List.set_cons_succ]
                  refine wpAnyL_take 21 74 (.pointer (some ⟨gl, pn, none⟩)) [] rfl rfl (by kernel_rfl) (by kernel_rfl) (by kernel_rfl) (by kernel_rfl) (by kernel_rfl) (fun _ _ _ h => h) (by rfl) (fun u _ => by go_simp) hS ?_
                  simp only [Act.put, List.setIfInBounds_toArray, List.set_cons_zero, List.set_cons_succ]
                  refine wpAnyL_one (i := 22) (by kernel_rfl) rfl (by rfl) fun K hK => ?_
                  obtain ⟨s1, s2, s3, s4, s5⟩ := hS
                  go_simp
                  refine hK _ _ (fun h => absurd rfl h) ?_
                  clear hK K
                  refine wpAnyL_done (by kernel_rfl) ?_ _
                  go_wp2
                  go_roundw
                  case rel => exact ⟨i + 1, by omega, by go_num, (unhide HNX).1.keep fun _ _ => rfl, (unhide HNX).2.1.drew, (unhide HNX).2.2⟩
                  case measure => simp [intOf]; omega
                · have hkI : (i : Int) < (kn : Int) := by rw [unhide HKN]; omega
                  have HSH := hide hsh
                  clear hsh
                  go_wp2_with (first
                    | (refine wpList_load_mid (by rfl) 95 (.tmp 23) (by rfl) g2 (i * 2) (by rfl) C.toList _ (unhide HR2) refWUnd rfl (by rw [Array.length_toList, (unhide HC1).1]; exact refWInfo) ?_; simp only [Act.put, List.setIfInBounds_toArray, List.set_cons_zero, List.set_cons_succ, Array.toArray_toList])
                    | (refine wpList_alloc_row (by rfl) 95 (by rfl) (some 7) (by rfl) N7 (by exact (unhide HN7).symm) _ zRefW ?_; intro W6 HX6 HB6 HS6; simp only [Act.put, List.setIfInBounds_toArray, List.set_cons_zero, List.set_cons_succ])
                    | (refine wpList_store_row (by rfl) 95 (.tmp 7) (.tmp 24) (by rfl) N7 C (by rfl) (by rfl) 95 _ (unhide HX6) (by rw [(unhide HC1).1]; exact refWInfo) (by rw [(unhide HC1).1]; rfl) (unhide HC1).2.1 ?_
                       have HX7 := hide (heapRow_same (unhide HX6) C)
                       have HB7 := hide (belowRow (unhide HB6) (Nat.le_refl N7) C)
                       generalize W6.setRow N7 C = W7 at *
                       obtain ⟨HS7, HNX, q0, q1, q2⟩ := unhide HGO W7 (unhide HX7) (unhide HB7)
                       obtain ⟨kg, ko, hkao, hkce⟩ := unhide HKC W7 (unhide HB7) hik
                       subst hkao
                       rw [hkb] at hkce
                       simp only [Act.put]))
                  rw [show (Value.int .i64 (8 * cut)) = .int .i64 (sn : Int) from by rw [show (8 * cut : Int) = (sn : Int) from by rw [unhide HSH]; omega]]
                  refine wp_region_last (fun u' => u'.cell? ⟨M, 0, none⟩ = some (.slice (some ⟨gl, 0, none⟩) P cl) ∧ u'.cell? ⟨N7, 0, none⟩ = some (.int .i64 (pn : Int)) ∧ u'.cell? ⟨N7, 1, none⟩ = some (.string SP) ∧ u'.cell? ⟨gl, pn, none⟩ = some (.string SL) ∧ u'.frozen? ⟨gl, pn, none⟩ = false) 22 (by kernel_rfl) (unhide HS7) fun hS => ?_
                  refine wpAnyL_take 0 53 (.pointer (some ⟨M, 0, none⟩)) [] rfl rfl (by kernel_rfl) (by kernel_rfl) (by kernel_rfl) (by kernel_rfl) (by kernel_rfl) (fun _ _ _ h => h) (by rfl) (fun u _ => by go_simp) hS ?_
                  simp only [Act.put, List.setIfInBounds_toArray, List.set_cons_zero, List.set_cons_succ]
                  refine wpAnyL_take 1 54 (.pointer (some ⟨M, 0, none⟩)) [] rfl rfl (by kernel_rfl) (by kernel_rfl) (by kernel_rfl) (by kernel_rfl) (by kernel_rfl) (fun _ _ _ h => h) (by rfl) (fun u _ => by go_simp) hS ?_
                  simp only [Act.put, List.setIfInBounds_toArray, List.set_cons_zero, List.set_cons_succ]
                  refine wpAnyL_take 2 55 (.pointer (some ⟨M, 0, none⟩)) [] rfl rfl (by kernel_rfl) (by kernel_rfl) (by kernel_rfl) (by kernel_rfl) (by kernel_rfl) (fun _ _ _ h => h) (by rfl) (fun u _ => by go_simp) hS ?_
                  simp only [Act.put, List.setIfInBounds_toArray, List.set_cons_zero, List.set_cons_succ]
                  refine wpAnyL_take 3 56 (.slice (some ⟨gl, 0, none⟩) P cl) [] rfl rfl (by kernel_rfl) (by kernel_rfl) (by kernel_rfl) (by kernel_rfl) (by kernel_rfl) (fun _ _ _ h => h) (by rfl) (fun u hu => by obtain ⟨s1, s2, s3, s4, s5⟩ := hu; go_simp) hS ?_
                  simp only [Act.put, List.setIfInBounds_toArray, List.set_cons_zero, List.set_cons_succ]
                  refine wpAnyL_take 4 57 (.pointer (some ⟨N7, 0, none⟩)) [] rfl rfl (by kernel_rfl) (by kernel_rfl) (by kernel_rfl) (by kernel_rfl) (by kernel_rfl) (fun _ _ _ h => h) (by rfl) (fun u _ => by go_simp) hS ?_
                  simp only [Act.put, List.setIfInBounds_toArray, List.set_cons_zero, List.set_cons_succ]
                  refine wpAnyL_take 5 58 (.int .i64 (pn : Int)) [] rfl rfl (by kernel_rfl) (by kernel_rfl) (by kernel_rfl) (by kernel_rfl) (by kernel_rfl) (fun _ _ _ h => h) (by rfl) (fun u hu => by obtain ⟨s1, s2, s3, s4, s5⟩ := hu; go_simp) hS ?_
                  simp only [Act.put, List.setIfInBounds_toArray, List.set_cons_zero, List.set_cons_succ]
                  refine wpAnyL_take 6 59 (.pointer (some ⟨N7, 1, none⟩)) [] rfl rfl (by kernel_rfl) (by kernel_rfl) (by kernel_rfl) (by kernel_rfl) (by kernel_rfl) (fun _ _ _ h => h) (by rfl) (fun u _ => by go_simp) hS ?_
                  simp only [Act.put, List.setIfInBounds_toArray, List.set_cons_zero, List.set_cons_succ]
                  refine wpAnyL_take 7 60 (.string SP) [] rfl rfl (by kernel_rfl) (by kernel_rfl) (by kernel_rfl) (by kernel_rfl) (by kernel_rfl) (fun _ _ _ h => h) (by rfl) (fun u hu => by obtain ⟨s1, s2, s3, s4, s5⟩ := hu; go_simp) hS ?_
                  simp only [Act.put, List.setIfInBounds_toArray, List.set_cons_zero, List.set_cons_succ]
                  refine wpAnyL_take 8 61 (.int .i64 (sn : Int)) [] rfl rfl (by kernel_rfl) (by kernel_rfl) (by kernel_rfl) (by kernel_rfl) (by kernel_rfl) (fun _ _ _ h => h) (by rfl) (fun u _ => by go_simp) hS ?_
                  simp only [Act.put, List.setIfInBounds_toArray, List.set_cons_zero, List.set_cons_succ]
                  refine wpAnyL_take 9 62 (.string A1) [] rfl rfl (by kernel_rfl) (by kernel_rfl) (by kernel_rfl) (by kernel_rfl) (by kernel_rfl) (fun _ _ _ h => h) (by rfl) (fun u _ => by go_simp) hS ?_
                  simp only [Act.put, List.setIfInBounds_toArray, List.set_cons_zero, List.set_cons_succ]
                  refine wpAnyL_take 10 63 (.pointer (some ⟨M, 0, none⟩)) [] rfl rfl (by kernel_rfl) (by kernel_rfl) (by kernel_rfl) (by kernel_rfl) (by kernel_rfl) (fun _ _ _ h => h) (by rfl) (fun u _ => by go_simp) hS ?_
                  simp only [Act.put, List.setIfInBounds_toArray, List.set_cons_zero, List.set_cons_succ]
                  refine wpAnyL_take 11 64 (.pointer (some ⟨M, 0, none⟩)) [] rfl rfl (by kernel_rfl) (by kernel_rfl) (by kernel_rfl) (by kernel_rfl) (by kernel_rfl) (fun _ _ _ h => h) (by rfl) (fun u _ => by go_simp) hS ?_
                  simp only [Act.put, List.setIfInBounds_toArray, List.set_cons_zero, List.set_cons_succ]
                  refine wpAnyL_take 12 65 (.pointer (some ⟨M, 0, none⟩)) [] rfl rfl (by kernel_rfl) (by kernel_rfl) (by kernel_rfl) (by kernel_rfl) (by kernel_rfl) (fun _ _ _ h => h) (by rfl) (fun u _ => by go_simp) hS ?_
                  simp only [Act.put, List.setIfInBounds_toArray, List.set_cons_zero, List.set_cons_succ]
                  refine wpAnyL_take 13 66 (.slice (some ⟨gl, 0, none⟩) P cl) [] rfl rfl (by kernel_rfl) (by kernel_rfl) (by kernel_rfl) (by kernel_rfl) (by kernel_rfl) (fun _ _ _ h => h) (by rfl) (fun u hu => by obtain ⟨s1, s2, s3, s4, s5⟩ := hu; go_simp) hS ?_
                  simp only [Act.put, List.setIfInBounds_toArray, List.set_cons_zero, List.set_cons_succ]
                  refine wpAnyL_take 14 67 (.pointer (some ⟨N7, 0, none⟩)) [] rfl rfl (by kernel_rfl) (by kernel_rfl) (by kernel_rfl) (by kernel_rfl) (by kernel_rfl) (fun _ _ _ h => h) (by rfl) (fun u _ => by go_simp) hS ?_
                  simp only [Act.put, List.setIfInBounds_toArray, List.set_cons_zero, List.set_cons_succ]
                  refine wpAnyL_take 15 68 (.int .i64 (pn : Int)) [] rfl rfl (by kernel_rfl) (by kernel_rfl) (by kernel_rfl) (by kernel_rfl) (by kernel_rfl) (fun _ _ _ h => h) (by rfl) (fun u hu => by obtain ⟨s1, s2, s3, s4, s5⟩ := hu; go_simp) hS ?_
                  simp only [Act.put, List.setIfInBounds_toArray, List.set_cons_zero, List.set_cons_succ]
                  refine wpAnyL_take 16 69 (.pointer (some ⟨gl, pn, none⟩)) [] rfl rfl (by kernel_rfl) (by kernel_rfl) (by kernel_rfl) (by kernel_rfl) (by kernel_rfl) (fun _ _ _ h => h) (by rfl) (fun u _ => by go_simp) hS ?_
                  simp only [Act.put, List.setIfInBounds_toArray, List.set_cons_zero, List.set_cons_succ]
                  refine wpAnyL_take 17 70 (.string SL) [] rfl rfl (by kernel_rfl) (by kernel_rfl) (by kernel_rfl) (by kernel_rfl) (by kernel_rfl) (fun _ _ _ h => h) (by rfl) (fun u hu => by obtain ⟨s1, s2, s3, s4, s5⟩ := hu; go_simp) hS ?_
                  simp only [Act.put, List.setIfInBounds_toArray, List.set_cons_zero, List.set_cons_succ]
                  refine wpAnyL_take 18 71 (.int .i64 (sn : Int)) [] rfl rfl (by kernel_rfl) (by kernel_rfl) (by kernel_rfl) (by kernel_rfl) (by kernel_rfl) (fun _ _ _ h => h) (by rfl) (fun u _ => by go_simp) hS ?_
                  simp only [Act.put, List.setIfInBounds_toArray, List.set_cons_zero, List.set_cons_succ]
                  refine wpAnyL_take 19 72 (.string A2) [] rfl rfl (by kernel_rfl) (by kernel_rfl) (by kernel_rfl) (by kernel_rfl) (by kernel_rfl) (fun _ _ _ h => h) (by rfl) (fun u _ => by go_simp) hS ?_
                  simp only [Act.put, List.setIfInBounds_toArray, List.set_cons_zero, List.set_cons_succ]
                  refine wpAnyL_take 20 73 (.string (A1 ++ A2)) [] rfl rfl (by kernel_rfl) (by kernel_rfl) (by kernel_rfl) (by kernel_rfl) (by kernel_rfl) (fun _ _ _ h => h) (by rfl) (fun u _ => by go_simp) hS ?_
                  simp only [Act.put, List.setIfInBounds_toArray, List.set_cons_zero, List.set_cons_succ]
                  refine wpAnyL_take 21 74 (.pointer (some ⟨gl, pn, none⟩)) [] rfl rfl (by kernel_rfl) (by kernel_rfl) (by kernel_rfl) (by kernel_rfl) (by kernel_rfl) (fun _ _ _ h => h) (by rfl) (fun u _ => by go_simp) hS ?_
                  simp only [Act.put, List.setIfInBounds_toArray, List.set_cons_zero, List.set_cons_succ]
                  refine wpAnyL_one (i := 22) (by kernel_rfl) rfl (by rfl) fun K hK => ?_
                  obtain ⟨s1, s2, s3, s4, s5⟩ := hS
                  go_simp
                  refine hK _ _ (fun h => absurd rfl h) ?_
                  clear hK K
                  refine wpAnyL_done (by kernel_rfl) ?_ _
                  go_wp2
                  go_roundw
                  case rel => exact ⟨i + 1, by omega, by go_num, (unhide HNX).1.keep fun _ _ => rfl, (unhide HNX).2.1.drew, (unhide HNX).2.2⟩
                  case measure => simp [intOf]; omega
              · have hkO : ¬ (i : Int) < (kn : Int) := by rw [unhide HKN]; omega
                have HSH := hide hsh
                clear hsh
                go_wp2_with (first
                  | (refine wpList_load_mid (by rfl) 95 (.tmp 23) (by rfl) g2 (i * 2) (by rfl) C.toList _ (unhide HR2) refWUnd rfl (by rw [Array.length_toList, (unhide HC1).1]; exact refWInfo) ?_; simp only [Act.put, List.setIfInBounds_toArray, List.set_cons_zero, List.set_cons_succ, Array.toArray_toList])
                  | (refine wpList_alloc_row (by rfl) 95 (by rfl) (some 7) (by rfl) N7 (by exact (unhide HN7).symm) _ zRefW ?_; intro W6 HX6 HB6 HS6; simp only [Act.put, List.setIfInBounds_toArray, List.set_cons_zero, List.set_cons_succ])
                  | (refine wpList_store_row (by rfl) 95 (.tmp 7) (.tmp 24) (by rfl) N7 C (by rfl) (by rfl) 95 _ (unhide HX6) (by rw [(unhide HC1).1]; exact refWInfo) (by rw [(unhide HC1).1]; rfl) (unhide HC1).2.1 ?_
                     have HX7 := hide (heapRow_same (unhide HX6) C)
                     have HB7 := hide (belowRow (unhide HB6) (Nat.le_refl N7) C)
                     generalize W6.setRow N7 C = W7 at *
                     obtain ⟨HS7, HNX, q0, q1, q2⟩ := unhide HGO W7 (unhide HX7) (unhide HB7)
                     simp only [Act.put]))
                rw [show (Value.int .i64 (8 * cut)) = .int .i64 (sn : Int) from by rw [show (8 * cut : Int) = (sn : Int) from by rw [unhide HSH]; omega]]
                refine wp_region_last (fun u' => u'.cell? ⟨M, 0, none⟩ = some (.slice (some ⟨gl, 0, none⟩) P cl) ∧ u'.cell? ⟨N7, 0, none⟩ = some (.int .i64 (pn : Int)) ∧ u'.cell? ⟨N7, 1, none⟩ = some (.string SP) ∧ u'.cell? ⟨gl, pn, none⟩ = some (.string SL) ∧ u'.frozen? ⟨gl, pn, none⟩ = false) 22 (by kernel_rfl) (unhide HS7) fun hS => ?_
                refine wpAnyL_take 0 53 (.pointer (some ⟨M, 0, none⟩)) [] rfl rfl (by kernel_rfl) (by kernel_rfl) (by kernel_rfl) (by kernel_rfl) (by kernel_rfl) (fun _ _ _ h => h) (by rfl) (fun u _ => by go_simp) hS ?_
                simp only [Act.put, List.setIfInBounds_toArray, List.set_cons_zero, List.set_cons_succ]
                refine wpAnyL_take 1 54 (.pointer (some ⟨M, 0, none⟩)) [] rfl rfl (by kernel_rfl) (by kernel_rfl) (by kernel_rfl) (by kernel_rfl) (by kernel_rfl) (fun _ _ _ h => h) (by rfl) (fun u _ => by go_simp) hS ?_
                simp only [Act.put, List.setIfInBounds_toArray, List.set_cons_zero, List.set_cons_succ]
                refine wpAnyL_take 2 55 (.pointer (some ⟨M, 0, none⟩)) [] rfl rfl (by kernel_rfl) (by kernel_rfl) (by kernel_rfl) (by kernel_rfl) (by kernel_rfl) (fun _ _ _ h => h) (by rfl) (fun u _ => by go_simp) hS ?_
                simp only [Act.put, List.setIfInBounds_toArray, List.set_cons_zero, List.set_cons_succ]
                refine wpAnyL_take 3 56 (.slice (some ⟨gl, 0, none⟩) P cl) [] rfl rfl (by kernel_rfl) (by kernel_rfl) (by kernel_rfl) (by kernel_rfl) (by kernel_rfl) (fun _ _ _ h => h) (by rfl) (fun u hu => by obtain ⟨s1, s2, s3, s4, s5⟩ := hu; go_simp) hS ?_
                simp only [Act.put, List.setIfInBounds_toArray, List.set_cons_zero, List.set_cons_succ]
                refine wpAnyL_take 4 57 (.pointer (some ⟨N7, 0, none⟩)) [] rfl rfl (by kernel_rfl) (by kernel_rfl) (by kernel_rfl) (by kernel_rfl) (by kernel_rfl) (fun _ _ _ h => h) (by rfl) (fun u _ => by go_simp) hS ?_
                simp only [Act.put, List.setIfInBounds_toArray, List.set_cons_zero, List.set_cons_succ]
                refine wpAnyL_take 5 58 (.int .i64 (pn : Int)) [] rfl rfl (by kernel_rfl) (by kernel_rfl) (by kernel_rfl) (by kernel_rfl) (by kernel_rfl) (fun _ _ _ h => h) (by rfl) (fun u hu => by obtain ⟨s1, s2, s3, s4, s5⟩ := hu; go_simp) hS ?_
                simp only [Act.put, List.setIfInBounds_toArray, List.set_cons_zero, List.set_cons_succ]
                refine wpAnyL_take 6 59 (.pointer (some ⟨N7, 1, none⟩)) [] rfl rfl (by kernel_rfl) (by kernel_rfl) (by kernel_rfl) (by kernel_rfl) (by kernel_rfl) (fun _ _ _ h => h) (by rfl) (fun u _ => by go_simp) hS ?_
                simp only [Act.put, List.setIfInBounds_toArray, List.set_cons_zero, List.set_cons_succ]
                refine wpAnyL_take 7 60 (.string SP) [] rfl rfl (by kernel_rfl) (by kernel_rfl) (by kernel_rfl) (by kernel_rfl) (by kernel_rfl) (fun _ _ _ h => h) (by rfl) (fun u hu => by obtain ⟨s1, s2, s3, s4, s5⟩ := hu; go_simp) hS ?_
                simp only [Act.put, List.setIfInBounds_toArray, List.set_cons_zero, List.set_cons_succ]
                refine wpAnyL_take 8 61 (.int .i64 (sn : Int)) [] rfl rfl (by kernel_rfl) (by kernel_rfl) (by kernel_rfl) (by kernel_rfl) (by kernel_rfl) (fun _ _ _ h => h) (by rfl) (fun u _ => by go_simp) hS ?_
                simp only [Act.put, List.setIfInBounds_toArray, List.set_cons_zero, List.set_cons_succ]
                refine wpAnyL_take 9 62 (.string A1) [] rfl rfl (by kernel_rfl) (by kernel_rfl) (by kernel_rfl) (by kernel_rfl) (by kernel_rfl) (fun _ _ _ h => h) (by rfl) (fun u _ => by go_simp) hS ?_
                simp only [Act.put, List.setIfInBounds_toArray, List.set_cons_zero, List.set_cons_succ]
                refine wpAnyL_take 10 63 (.pointer (some ⟨M, 0, none⟩)) [] rfl rfl (by kernel_rfl) (by kernel_rfl) (by kernel_rfl) (by kernel_rfl) (by kernel_rfl) (fun _ _ _ h => h) (by rfl) (fun u _ => by go_simp) hS ?_
                simp only [Act.put, List.setIfInBounds_toArray, List.set_cons_zero, List.set_cons_succ]
                refine wpAnyL_take 11 64 (.pointer (some ⟨M, 0, none⟩)) [] rfl rfl (by kernel_rfl) (by kernel_rfl) (by kernel_rfl) (by kernel_rfl) (by kernel_rfl) (fun _ _ _ h => h) (by rfl) (fun u _ => by go_simp) hS ?_
                simp only [Act.put, List.setIfInBounds_toArray, List.set_cons_zero, List.set_cons_succ]
                refine wpAnyL_take 12 65 (.pointer (some ⟨M, 0, none⟩)) [] rfl rfl (by kernel_rfl) (by kernel_rfl) (by kernel_rfl) (by kernel_rfl) (by kernel_rfl) (fun _ _ _ h => h) (by rfl) (fun u _ => by go_simp) hS ?_
                simp only [Act.put, List.setIfInBounds_toArray, List.set_cons_zero, List.set_cons_succ]
                refine wpAnyL_take 13 66 (.slice (some ⟨gl, 0, none⟩) P cl) [] rfl rfl (by kernel_rfl) (by kernel_rfl) (by kernel_rfl) (by kernel_rfl) (by kernel_rfl) (fun _ _ _ h => h) (by rfl) (fun u hu => by obtain ⟨s1, s2, s3, s4, s5⟩ := hu; go_simp) hS ?_
                simp only [Act.put, List.setIfInBounds_toArray, List.set_cons_zero, List.set_cons_succ]
                refine wpAnyL_take 14 67 (.pointer (some ⟨N7, 0, none⟩)) [] rfl rfl (by kernel_rfl) (by kernel_rfl) (by kernel_rfl) (by kernel_rfl) (by kernel_rfl) (fun _ _ _ h => h) (by rfl) (fun u _ => by go_simp) hS ?_
                simp only [Act.put, List.setIfInBounds_toArray, List.set_cons_zero, List.set_cons_succ]
                refine wpAnyL_take 15 68 (.int .i64 (pn : Int)) [] rfl rfl (by kernel_rfl) (by kernel_rfl) (by kernel_rfl) (by kernel_rfl) (by kernel_rfl) (fun _ _ _ h => h) (by rfl) (fun u hu => by obtain ⟨s1, s2, s3, s4, s5⟩ := hu; go_simp) hS ?_
                simp only [Act.put, List.setIfInBounds_toArray, List.set_cons_zero, List.set_cons_succ]
                refine wpAnyL_take 16 69 (.pointer (some ⟨gl, pn, none⟩)) [] rfl rfl (by kernel_rfl) (by kernel_rfl) (by kernel_rfl) (by kernel_rfl) (by kernel_rfl) (fun _ _ _ h => h) (by rfl) (fun u _ => by go_simp) hS ?_
                simp only [Act.put, List.setIfInBounds_toArray, List.set_cons_zero, List.set_cons_succ]
                refine wpAnyL_take 17 70 (.string SL) [] rfl rfl (by kernel_rfl) (by kernel_rfl) (by kernel_rfl) (by kernel_rfl) (by kernel_rfl) (fun _ _ _ h => h) (by rfl) (fun u hu => by obtain ⟨s1, s2, s3, s4, s5⟩ := hu; go_simp) hS ?_
                simp only [Act.put, List.setIfInBounds_toArray, List.set_cons_zero, List.set_cons_succ]
                refine wpAnyL_take 18 71 (.int .i64 (sn : Int)) [] rfl rfl (by kernel_rfl) (by kernel_rfl) (by kernel_rfl) (by kernel_rfl) (by kernel_rfl) (fun _ _ _ h => h) (by rfl) (fun u _ => by go_simp) hS ?_
                simp only [Act.put, List.setIfInBounds_toArray, List.set_cons_zero, List.set_cons_succ]
                refine wpAnyL_take 19 72 (.string A2) [] rfl rfl (by kernel_rfl) (by kernel_rfl) (by kernel_rfl) (by kernel_rfl) (by kernel_rfl) (fun _ _ _ h => h) (by rfl) (fun u _ => by go_simp) hS ?_
                simp only [Act.put, List.setIfInBounds_toArray, List.set_cons_zero, List.set_cons_succ]
                refine wpAnyL_take 20 73 (.string (A1 ++ A2)) [] rfl rfl (by kernel_rfl) (by kernel_rfl) (by kernel_rfl) (by kernel_rfl) (by kernel_rfl) (fun _ _ _ h => h) (by rfl) (fun u _ => by go_simp) hS ?_
                simp only [Act.put, List.setIfInBounds_toArray, List.set_cons_zero, List.set_cons_succ]
                refine wpAnyL_take 21 74 (.pointer (some ⟨gl, pn, none⟩)) [] rfl rfl (by kernel_rfl) (by kernel_rfl) (by kernel_rfl) (by kernel_rfl) (by kernel_rfl) (fun _ _ _ h => h) (by rfl) (fun u _ => by go_simp) hS ?_
                simp only [Act.put, List.setIfInBounds_toArray, List.set_cons_zero, List.set_cons_succ]
                refine wpAnyL_one (i := 22) (by kernel_rfl) rfl (by rfl) fun K hK => ?_
                obtain ⟨s1, s2, s3, s4, s5⟩ := hS
                go_simp
                refine hK _ _ (fun h => absurd rfl h) ?_
                clear hK K
                refine wpAnyL_done (by kernel_rfl) ?_ _
                go_wp2
                go_roundw
                case rel => exact ⟨i + 1, by omega, by go_num, (unhide HNX).1.keep fun _ _ => rfl, (unhide HNX).2.1.drew, (unhide HNX).2.2⟩
                case measure => simp [intOf]; omega
            · rcases Int.lt_or_eq_of_le (show 128 ≤ cut by omega) with hcl | rfl
              · by_cases hik : i < ks.length
                · cases hkb : ks[i]
                  · have hkI : (i : Int) < (kn : Int) := by rw [unhide HKN]; omega
                    have HSH := hide hsh
                    clear hsh
                    go_wp2_with (first
                      | (refine wpList_load_mid (by rfl) 95 (.tmp 23) (by rfl) g2 (i * 2) (by rfl) C.toList _ (unhide HR2) refWUnd rfl (by rw [Array.length_toList, (unhide HC1).1]; exact refWInfo) ?_; simp only [Act.put, List.setIfInBounds_toArray, List.set_cons_zero, List.set_cons_succ, Array.toArray_toList])
                      | (refine wpList_alloc_row (by rfl) 95 (by rfl) (some 7) (by rfl) N7 (by exact (unhide HN7).symm) _ zRefW ?_; intro W6 HX6 HB6 HS6; simp only [Act.put, List.setIfInBounds_toArray, List.set_cons_zero, List.set_cons_succ])
                      | (refine wpList_store_row (by rfl) 95 (.tmp 7) (.tmp 24) (by rfl) N7 C (by rfl) (by rfl) 95 _ (unhide HX6) (by rw [(unhide HC1).1]; exact refWInfo) (by rw [(unhide HC1).1]; rfl) (unhide HC1).2.1 ?_
                         have HX7 := hide (heapRow_same (unhide HX6) C)
                         have HB7 := hide (belowRow (unhide HB6) (Nat.le_refl N7) C)
                         generalize W6.setRow N7 C = W7 at *
                         obtain ⟨HS7, HNX, q0, q1, q2⟩ := unhide HGO W7 (unhide HX7) (unhide HB7)
                         obtain ⟨kg, ko, hkao, hkce⟩ := unhide HKC W7 (unhide HB7) hik
                         subst hkao
                         rw [hkb] at hkce
                         simp only [Act.put]))
                    rw [show (Value.int .i64 1024) = .int .i64 (sn : Int) from by rw [show (1024 : Int) = (sn : Int) from by rw [unhide HSH]; omega]]
                    refine wp_region_last (fun u' => u'.cell? ⟨M, 0, none⟩ = some (.slice (some ⟨gl, 0, none⟩) P cl) ∧ u'.cell? ⟨N7, 0, none⟩ = some (.int .i64 (pn : Int)) ∧ u'.cell? ⟨N7, 1, none⟩ = some (.string SP) ∧ u'.cell? ⟨gl, pn, none⟩ = some (.string SL) ∧ u'.frozen? ⟨gl, pn, none⟩ = false) 22 (by kernel_rfl) (unhide HS7) fun hS => ?_
                    refine wpAnyL_take 0 53 (.pointer (some ⟨M, 0, none⟩)) [] rfl rfl (by kernel_rfl) (by kernel_rfl) (by kernel_rfl) (by kernel_rfl) (by kernel_rfl) (fun _ _ _ h => h) (by rfl) (fun u _ => by go_simp) hS ?_
                    simp only [Act.put, List.setIfInBounds_toArray, List.set_cons_zero, List.set_cons_succ]
                    refine wpAnyL_take 1 54 (.pointer (some ⟨M, 0, none⟩)) [] rfl rfl (by kernel_rfl) (by kernel_rfl) (by kernel_rfl) (by kernel_rfl) (by kernel_rfl) (fun _ _ _ h => h) (by rfl) (fun u _ => by go_simp) hS ?_
                    simp only [Act.put, List.setIfInBounds_toArray, List.set_cons_zero, List.set_cons_succ]
                    refine wpAnyL_take 2 55 (.pointer (some ⟨M, 0, none⟩)) [] rfl rfl (by kernel_rfl) (by kernel_rfl) (by kernel_rfl) (by kernel_rfl) (by kernel_rfl) (fun _ _ _ h => h) (by rfl) (fun u _ => by go_simp) hS ?_
                    simp only [Act.put, List.setIfInBounds_toArray, List.set_cons_zero, List.set_cons_succ]
                    refine wpAnyL_take 3 56 (.slice (some ⟨gl, 0, none⟩) P cl) [] rfl rfl (by kernel_rfl) (by kernel_rfl) (by kernel_rfl) (by kernel_rfl) (by kernel_rfl) (fun _ _ _ h => h) (by rfl) (fun u hu => by obtain ⟨s1, s2, s3, s4, s5⟩ := hu; go_simp) hS ?_
                    simp only [Act.put, List.setIfInBounds_toArray, List.set_cons_zero, List.set_cons_succ]
                    refine wpAnyL_take 4 57 (.pointer (some ⟨N7, 0, none⟩)) [] rfl rfl (by kernel_rfl) (by kernel_rfl) (by kernel_rfl) (by kernel_rfl) (by kernel_rfl) (fun _ _ _ h => h) (by rfl) (fun u _ => by go_simp) hS ?_
                    simp only [Act.put, List.setIfInBounds_toArray, List.set_cons_zero, List.set_cons_succ]
                    refine wpAnyL_take 5 58 (.int .i64 (pn : Int)) [] rfl rfl (by kernel_rfl) (by kernel_rfl) (by kernel_rfl) (by kernel_rfl) (by kernel_rfl) (fun _ _ _ h => h) (by rfl) (fun u hu => by obtain ⟨s1, s2, s3, s4, s5⟩ := hu; go_simp) hS ?_
                    simp only [Act.put, List.setIfInBounds_toArray, List.set_cons_zero, List.set_cons_succ]
                    refine wpAnyL_take 6 59 (.pointer (some ⟨N7, 1, none⟩)) [] rfl rfl (by kernel_rfl) (by kernel_rfl) (by kernel_rfl) (by kernel_rfl) (by kernel_rfl) (fun _ _ _ h => h) (by rfl) (fun u _ => by go_simp) hS ?_
                    simp only [Act.put, List.setIfInBounds_toArray, List.set_cons_zero, List.set_cons_succ]
                    refine wpAnyL_take 7 60 (.string SP) [] rfl rfl (by kernel_rfl) (by kernel_rfl) (by kernel_rfl) (by kernel_rfl) (by kernel_rfl) (fun _ _ _ h => h) (by rfl) (fun u hu => by obtain ⟨s1, s2, s3, s4, s5⟩ := hu; go_simp) hS ?_
                    simp only [Act.put, List.setIfInBounds_toArray, List.set_cons_zero, List.set_cons_succ]
                    refine wpAnyL_take 8 61 (.int .i64 (sn : Int)) [] rfl rfl (by kernel_rfl) (by kernel_rfl) (by kernel_rfl) (by kernel_rfl) (by kernel_rfl) (fun _ _ _ h => h) (by rfl) (fun u _ => by go_simp) hS ?_
                    simp only [Act.put, List.setIfInBounds_toArray, List.set_cons_zero, List.set_cons_succ]
                    refine wpAnyL_take 9 62 (.string A1) [] rfl rfl (by kernel_rfl) (by kernel_rfl) (by kernel_rfl) (by kernel_rfl) (by kernel_rfl) (fun _ _ _ h => h) (by rfl) (fun u _ => by go_simp) hS ?_
                    simp only [Act.put, List.setIfInBounds_toArray, List.set_cons_zero, List.set_cons_succ]
                    refine wpAnyL_take 10 63 (.pointer (some ⟨M, 0, none⟩)) [] rfl rfl (by kernel_rfl) (by kernel_rfl) (by kernel_rfl) (by kernel_rfl) (by kernel_rfl) (fun _ _ _ h => h) (by rfl) (fun u _ => by go_simp) hS ?_
                    simp only [Act.put, List.setIfInBounds_toArray, List.set_cons_zero, List.set_cons_succ]
                    refine wpAnyL_take 11 64 (.pointer (some ⟨M, 0, none⟩)) [] rfl rfl (by kernel_rfl) (by kernel_rfl) (by kernel_rfl) (by kernel_rfl) (by kernel_rfl) (fun _ _ _ h => h) (by rfl) (fun u _ => by go_simp) hS ?_
                    simp only [Act.put, List.setIfInBounds_toArray, List.set_cons_zero, List.set_cons_succ]
                    refine wpAnyL_take 12 65 (.pointer (some ⟨M, 0, none⟩)) [] rfl rfl (by kernel_rfl) (by kernel_rfl) (by kernel_rfl) (by kernel_rfl) (by kernel_rfl) (fun _ _ _ h => h) (by rfl) (fun u _ => by go_simp) hS ?_
                    simp only [Act.put, List.setIfInBounds_toArray, List.set_cons_zero, List.set_cons_succ]
                    refine wpAnyL_take 13 66 (.slice (some ⟨gl, 0, none⟩) P cl) [] rfl rfl (by kernel_rfl) (by kernel_rfl) (by kernel_rfl) (by kernel_rfl) (by kernel_rfl) (fun _ _ _ h => h) (by rfl) (fun u hu => by obtain ⟨s1, s2, s3, s4, s5⟩ := hu; go_simp) hS ?_
                    simp only [Act.put, List.setIfInBounds_toArray, List.set_cons_zero, List.set_cons_succ]
                    refine wpAnyL_take 14 67 (.pointer (some ⟨N7, 0, none⟩)) [] rfl rfl (by kernel_rfl) (by kernel_rfl) (by kernel_rfl) (by kernel_rfl) (by kernel_rfl) (fun _ _ _ h => h) (by rfl) (fun u _ => by go_simp) hS ?_
                    simp only [Act.put, List.setIfInBounds_toArray, List.set_cons_zero, List.set_cons_succ]
                    refine wpAnyL_take 15 68 (.int .i64 (pn : Int)) [] rfl rfl (by kernel_rfl) (by kernel_rfl) (by kernel_rfl) (by kernel_rfl) (by kernel_rfl) (fun _ _ _ h => h) (by rfl) (fun u hu => by obtain ⟨s1, s2, s3, s4, s5⟩ := hu; go_simp) hS ?_
                    simp only [Act.put, List.setIfInBounds_toArray, List.set_cons_zero, List.set_cons_succ]
                    refine wpAnyL_take 16 69 (.pointer (some ⟨gl, pn, none⟩)) [] rfl rfl (by kernel_rfl) (by kernel_rfl) (by kernel_rfl) (by kernel_rfl) (by kernel_rfl) (fun _ _ _ h => h) (by rfl) (fun u _ => by go_simp) hS ?_
                    simp only [Act.put, List.setIfInBounds_toArray, List.set_cons_zero, List.set_cons_succ]
                    refine wpAnyL_take 17 70 (.string SL) [] rfl rfl (by kernel_rfl) (by kernel_rfl) (by kernel_rfl) (by kernel_rfl) (by kernel_rfl) (fun _ _ _ h => h) (by rfl) (fun u hu => by obtain ⟨s1, s2, s3, s4, s5⟩ := hu; go_simp) hS ?_
                    simp only [Act.put, List.setIfInBounds_toArray, List.set_cons_zero, List.set_cons_succ]
                    refine wpAnyL_take 18 71 (.int .i64 (sn : Int)) [] rfl rfl (by kernel_rfl) (by kernel_rfl) (by kernel_rfl) (by kernel_rfl) (by kernel_rfl) (fun _ _ _ h => h) (by rfl) (fun u _ => by go_simp) hS ?_
                    simp only [Act.put, List.setIfInBounds_toArray, List.set_cons_zero, List.set_cons_succ]
                    refine wpAnyL_take 19 72 (.string A2) [] rfl rfl (by kernel_rfl) (by kernel_rfl) (by kernel_rfl) (by kernel_rfl) (by kernel_rfl) (fun _ _ _ h => h) (by rfl) (fun u _ => by go_simp) hS ?_
                    simp only [Act.put, List.setIfInBounds_toArray, List.set_cons_zero, List.set_cons_succ]
                    refine wpAnyL_take 20 73 (.string (A1 ++ A2)) [] rfl rfl (by kernel_rfl) (by kernel_rfl) (by kernel_rfl) (by kernel_rfl) (by kernel_rfl) (fun _ _ _ h => h) (by rfl) (fun u _ => by go_simp) hS ?_
                    simp only [Act.put, List.setIfInBounds_toArray, List.set_cons_zero, List.set_cons_succ]
                    refine wpAnyL_take 21 74 (.pointer (some ⟨gl, pn, none⟩)) [] rfl rfl (by kernel_rfl) (by kernel_rfl) (by kernel_rfl) (by kernel_rfl) (by kernel_rfl) (fun _ _ _ h => h) (by rfl) (fun u _ => by go_simp) hS ?_
                    simp only [Act.put, List.setIfInBounds_toArray, List.set_cons_zero, List.set_cons_succ]
                    refine wpAnyL_one (i := 22) (by kernel_rfl) rfl (by rfl) fun K hK => ?_
                    obtain ⟨s1, s2, s3, s4, s5⟩ := hS
                    go_simp
                    refine hK _ _ (fun h => absurd rfl h) ?_
                    clear hK K
                    refine wpAnyL_done (by kernel_rfl) ?_ _
                    go_wp2
                    go_roundw
                    case rel => exact ⟨i + 1, by omega, by go_num, (unhide HNX).1.keep fun _ _ => rfl, (unhide HNX).2.1.drew, (unhide HNX).2.2⟩
                    case measure => simp [intOf]; omega
                  · have hkI : (i : Int) < (kn : Int) := by rw [unhide HKN]; omega
                    have HSH := hide hsh
                    clear hsh
                    go_wp2_with (first
                      | (refine wpList_load_mid (by rfl) 95 (.tmp 23) (by rfl) g2 (i * 2) (by rfl) C.toList _ (unhide HR2) refWUnd rfl (by rw [Array.length_toList, (unhide HC1).1]; exact refWInfo) ?_; simp only [Act.put, List.setIfInBounds_toArray, List.set_cons_zero, List.set_cons_succ, Array.toArray_toList])
                      | (refine wpList_alloc_row (by rfl) 95 (by rfl) (some 7) (by rfl) N7 (by exact (unhide HN7).symm) _ zRefW ?_; intro W6 HX6 HB6 HS6; simp only [Act.put, List.setIfInBounds_toArray, List.set_cons_zero, List.set_cons_succ])
                      | (refine wpList_store_row (by rfl) 95 (.tmp 7) (.tmp 24) (by rfl) N7 C (by rfl) (by rfl) 95 _ (unhide HX6) (by rw [(unhide HC1).1]; exact refWInfo) (by rw [(unhide HC1).1]; rfl) (unhide HC1).2.1 ?_
                         have HX7 := hide (heapRow_same (unhide HX6) C)
                         have HB7 := hide (belowRow (unhide HB6) (Nat.le_refl N7) C)
                         generalize W6.setRow N7 C = W7 at *
                         obtain ⟨HS7, HNX, q0, q1, q2⟩ := unhide HGO W7 (unhide HX7) (unhide HB7)
                         obtain ⟨kg, ko, hkao, hkce⟩ := unhide HKC W7 (unhide HB7) hik
                         subst hkao
                         rw [hkb] at hkce
                         simp only [Act.put]))
                    rw [show (Value.int .i64 1024) = .int .i64 (sn : Int) from by rw [show (1024 : Int) = (sn : Int) from by rw [unhide HSH]; omega]]
                    refine wp_region_last (fun u' => u'.cell? ⟨M, 0, none⟩ = some (.slice (some ⟨gl, 0, none⟩) P cl) ∧ u'.cell? ⟨N7, 0, none⟩ = some (.int .i64 (pn : Int)) ∧ u'.cell? ⟨N7, 1, none⟩ = some (.string SP) ∧ u'.cell? ⟨gl, pn, none⟩ = some (.string SL) ∧ u'.frozen? ⟨gl, pn, none⟩ = false) 22 (by kernel_rfl) (unhide HS7) fun hS => ?_
                    refine wpAnyL_take 0 53 (.pointer (some ⟨M, 0, none⟩)) [] rfl rfl (by kernel_rfl) (by kernel_rfl) (by kernel_rfl) (by kernel_rfl) (by kernel_rfl) (fun _ _ _ h => h) (by rfl) (fun u _ => by go_simp) hS ?_
                    simp only [Act.put, List.setIfInBounds_toArray, List.set_cons_zero, List.set_cons_succ]
                    refine wpAnyL_take 1 54 (.pointer (some ⟨M, 0, none⟩)) [] rfl rfl (by kernel_rfl) (by kernel_rfl) (by kernel_rfl) (by kernel_rfl) (by kernel_rfl) (fun _ _ _ h => h) (by rfl) (fun u _ => by go_simp) hS ?_
                    simp only [Act.put, List.setIfInBounds_toArray, List.set_cons_zero, List.set_cons_succ]
                    refine wpAnyL_take 2 55 (.pointer (some ⟨M, 0, none⟩)) [] rfl rfl (by kernel_rfl) (by kernel_rfl) (by kernel_rfl) (by kernel_rfl) (by kernel_rfl) (fun _ _ _ h => h) (by rfl) (fun u _ => by go_simp) hS ?_
                    simp only [Act.put, List.setIfInBounds_toArray, List.set_cons_zero, List.set_cons_succ]
                    refine wpAnyL_take 3 56 (.slice (some ⟨gl, 0, none⟩) P cl) [] rfl rfl (by kernel_rfl) (by kernel_rfl) (by kernel_rfl) (by kernel_rfl) (by kernel_rfl) (fun _ _ _ h => h) (by rfl) (fun u hu => by obtain ⟨s1, s2, s3, s4, s5⟩ := hu; go_simp) hS ?_
                    simp only [Act.put, List.setIfInBounds_toArray, List.set_cons_zero, List.set_cons_succ]
                    refine wpAnyL_take 4 57 (.pointer (some ⟨N7, 0, none⟩)) [] rfl rfl (by kernel_rfl) (by kernel_rfl) (by kernel_rfl) (by kernel_rfl) (by kernel_rfl) (fun _ _ _ h => h) (by rfl) (fun u _ => by go_simp) hS ?_
                    simp only [Act.put, List.setIfInBounds_toArray, List.set_cons_zero, List.set_cons_succ]
                    refine wpAnyL_take 5 58 (.int .i64 (pn : Int)) [] rfl rfl (by kernel_rfl) (by kernel_rfl) (by kernel_rfl) (by kernel_rfl) (by kernel_rfl) (fun _ _ _ h => h) (by rfl) (fun u hu => by obtain ⟨s1, s2, s3, s4, s5⟩ := hu; go_simp) hS ?_
                    simp only [Act.put, List.setIfInBounds_toArray, List.set_cons_zero, List.set_cons_succ]
                    refine wpAnyL_take 6 59 (.pointer (some ⟨N7, 1, none⟩)) [] rfl rfl (by kernel_rfl) (by kernel_rfl) (by kernel_rfl) (by kernel_rfl) (by kernel_rfl) (fun _ _ _ h => h) (by rfl) (fun u _ => by go_simp) hS ?_
                    simp only [Act.put, List.setIfInBounds_toArray, List.set_cons_zero, List.set_cons_succ]
                    refine wpAnyL_take 7 60 (.string SP) [] rfl rfl (by kernel_rfl) (by kernel_rfl) (by kernel_rfl) (by kernel_rfl) (by kernel_rfl) (fun _ _ _ h => h) (by rfl) (fun u hu => by obtain ⟨s1, s2, s3, s4, s5⟩ := hu; go_simp) hS ?_
                    simp only [Act.put, List.setIfInBounds_toArray, List.set_cons_zero, List.set_cons_succ]
                    refine wpAnyL_take 8 61 (.int .i64 (sn : Int)) [] rfl rfl (by kernel_rfl) (by kernel_rfl) (by kernel_rfl) (by kernel_rfl) (by kernel_rfl) (fun _ _ _ h => h) (by rfl) (fun u _ => by go_simp) hS ?_
                    simp only [Act.put, List.setIfInBounds_toArray, List.set_cons_zero, List.set_cons_succ]
                    refine wpAnyL_take 9 62 (.string A1) [] rfl rfl (by kernel_rfl) (by kernel_rfl) (by kernel_rfl) (by kernel_rfl) (by kernel_rfl) (fun _ _ _ h => h) (by rfl) (fun u _ => by go_simp) hS ?_
                    simp only [Act.put, List.setIfInBounds_toArray, List.set_cons_zero, List.set_cons_succ]
                    refine wpAnyL_take 10 63 (.pointer (some ⟨M, 0, none⟩)) [] rfl rfl (by kernel_rfl) (by kernel_rfl) (by kernel_rfl) (by kernel_rfl) (by kernel_rfl) (fun _ _ _ h => h) (by rfl) (fun u _ => by go_simp) hS ?_
                    simp only [Act.put, List.setIfInBounds_toArray, List.set_cons_zero, List.set_cons_succ]
                    refine wpAnyL_take 11 64 (.pointer (some ⟨M, 0, none⟩)) [] rfl rfl (by kernel_rfl) (by kernel_rfl) (by kernel_rfl) (by kernel_rfl) (by kernel_rfl) (fun _ _ _ h => h) (by rfl) (fun u _ => by go_simp) hS ?_
                    simp only [Act.put, List.setIfInBounds_toArray, List.set_cons_zero, List.set_cons_succ]
                    refine wpAnyL_take 12 65 (.pointer (some ⟨M, 0, none⟩)) [] rfl rfl (by kernel_rfl) (by kernel_rfl) (by kernel_rfl) (by kernel_rfl) (by kernel_rfl) (fun _ _ _ h => h) (by rfl) (fun u _ => by go_simp) hS ?_
                    simp only [Act.put, List.setIfInBounds_toArray, List.set_cons_zero, List.set_cons_succ]
                    refine wpAnyL_take 13 66 (.slice (some ⟨gl, 0, none⟩) P cl) [] rfl rfl (by kernel_rfl) (by kernel_rfl) (by kernel_rfl) (by kernel_rfl) (by kernel_rfl) (fun _ _ _ h => h) (by rfl) (fun u hu => by obtain ⟨s1, s2, s3, s4, s5⟩ := hu; go_simp) hS ?_
                    simp only [Act.put, List.setIfInBounds_toArray, List.set_cons_zero, List.set_cons_succ]
                    refine wpAnyL_take 14 67 (.pointer (some ⟨N7, 0, none⟩)) [] rfl rfl (by kernel_rfl) (by kernel_rfl) (by kernel_rfl) (by kernel_rfl) (by kernel_rfl) (fun _ _ _ h => h) (by rfl) (fun u _ => by go_simp) hS ?_
                    simp only [Act.put, List.setIfInBounds_toArray, List.set_cons_zero, List.set_cons_succ]
                    refine wpAnyL_take 15 68 (.int .i64 (pn : Int)) [] rfl rfl (by kernel_rfl) (by kernel_rfl) (by kernel_rfl) (by kernel_rfl) (by kernel_rfl) (fun _ _ _ h => h) (by rfl) (fun u hu => by obtain ⟨s1, s2, s3, s4, s5⟩ := hu; go_simp) hS ?_
                    simp only [Act.put, List.setIfInBounds_toArray, List.set_cons_zero, List.set_cons_succ]
                    refine wpAnyL_take 16 69 (.pointer (some ⟨gl, pn, none⟩)) [] rfl rfl (by kernel_rfl) (by kernel_rfl) (by kernel_rfl) (by kernel_rfl) (by kernel_rfl) (fun _ _ _ h => h) (by rfl) (fun u _ => by go_simp) hS ?_
                    simp only [Act.put, List.setIfInBounds_toArray, List.set_cons_zero, List.set_cons_succ]
                    refine wpAnyL_take 17 70 (.string SL) [] rfl rfl (by kernel_rfl) (by kernel_rfl) (by kernel_rfl) (by kernel_rfl) (by kernel_rfl) (fun _ _ _ h => h) (by rfl) (fun u hu => by obtain ⟨s1, s2, s3, s4, s5⟩ := hu; go_simp) hS ?_
                    simp only [Act.put, List.setIfInBounds_toArray, List.set_cons_zero, List.set_cons_succ]
                    refine wpAnyL_take 18 71 (.int .i64 (sn : Int)) [] rfl rfl (by kernel_rfl) (by kernel_rfl) (by kernel_rfl) (by kernel_rfl) (by kernel_rfl) (fun _ _ _ h => h) (by rfl) (fun u _ => by go_simp) hS ?_
                    simp only [Act.put, List.setIfInBounds_toArray, List.set_cons_zero, List.set_cons_succ]
                    refine wpAnyL_take 19 72 (.string A2) [] rfl rfl (by kernel_rfl) (by kernel_rfl) (by kernel_rfl) (by kernel_rfl) (by kernel_rfl) (fun _ _ _ h => h) (by rfl) (fun u _ => by go_simp) hS ?_
                    simp only [Act.put, List.setIfInBounds_toArray, List.set_cons_zero, List.set_cons_succ]
                    refine wpAnyL_take 20 73 (.string (A1 ++ A2)) [] rfl rfl (by kernel_rfl) (by kernel_rfl) (by kernel_rfl) (by kernel_rfl) (by kernel_rfl) (fun _ _ _ h => h) (by rfl) (fun u _ => by go_simp) hS ?_
                    simp only [Act.put, List.setIfInBounds_toArray, List.set_cons_zero, List.set_cons_succ]
                    refine wpAnyL_take 21 74 (.pointer (some ⟨gl, pn, none⟩)) [] rfl rfl (by kernel_rfl) (by kernel_rfl) (by kernel_rfl) (by kernel_rfl) (by kernel_rfl) (fun _ _ _ h => h) (by rfl) (fun u _ => by go_simp) hS ?_
                    simp only [Act.put, List.setIfInBounds_toArray, List.set_cons_zero, List.set_cons_succ]
                    refine wpAnyL_one (i := 22) (by kernel_rfl) rfl (by rfl) fun K hK => ?_
                    obtain ⟨s1, s2, s3, s4, s5⟩ := hS
                    go_simp
                    refine hK _ _ (fun h => absurd rfl h) ?_
                    clear hK K
                    refine wpAnyL_done (by kernel_rfl) ?_ _
                    go_wp2
                    go_roundw
                    case rel => exact ⟨i + 1, by omega, by go_num, (unhide HNX).1.keep fun _ _ => rfl, (unhide HNX).2.1.drew, (unhide HNX).2.2⟩
                    case measure => simp [intOf]; omega
                · have hkO : ¬ (i : Int) < (kn : Int) := by rw [unhide HKN]; omega
                  have HSH := hide hsh
                  clear hsh
                  go_wp2_with (first
                    | (refine wpList_load_mid (by rfl) 95 (.tmp 23) (by rfl) g2 (i * 2) (by rfl) C.toList _ (unhide HR2) refWUnd rfl (by rw [Array.length_toList, (unhide HC1).1]; exact refWInfo) ?_; simp only [Act.put, List.setIfInBounds_toArray, List.set_cons_zero, List.set_cons_succ, Array.toArray_toList])
                    | (refine wpList_alloc_row (by rfl) 95 (by rfl) (some 7) (by rfl) N7 (by exact (unhide HN7).symm) _ zRefW ?_; intro W6 HX6 HB6 HS6; simp only [Act.put, List.setIfInBounds_toArray, List.set_cons_zero, List.set_cons_succ])
                    | (refine wpList_store_row (by rfl) 95 (.tmp 7) (.tmp 24) (by rfl) N7 C (by rfl) (by rfl) 95 _ (unhide HX6) (by rw [(unhide HC1).1]; exact refWInfo) (by rw [(unhide HC1).1]; rfl) (unhide HC1).2.1 ?_
                       have HX7 := hide (heapRow_same (unhide HX6) C)
                       have HB7 := hide (belowRow (unhide HB6) (Nat.le_refl N7) C)
                       generalize W6.setRow N7 C = W7 at *
                       obtain ⟨HS7, HNX, q0, q1, q2⟩ := unhide HGO W7 (unhide HX7) (unhide HB7)
                       simp only [Act.put]))
                  rw [show (Value.int .i64 1024) = .int .i64 (sn : Int) from by rw [show (1024 : Int) = (sn : Int) from by rw [unhide HSH]; omega]]
                  refine wp_region_last (fun u' => u'.cell? ⟨M, 0, none⟩ = some (.slice (some ⟨gl, 0, none⟩) P cl) ∧ u'.cell? ⟨N7, 0, none⟩ = some (.int .i64 (pn : Int)) ∧ u'.cell? ⟨N7, 1, none⟩ = some (.string SP) ∧ u'.cell? ⟨gl, pn, none⟩ = some (.string SL) ∧ u'.frozen? ⟨gl, pn, none⟩ = false) 22 (by kernel_rfl) (unhide HS7) fun hS => ?_
                  refine wpAnyL_take 0 53 (.pointer (some ⟨M, 0, none⟩)) [] rfl rfl (by kernel_rfl) (by kernel_rfl) (by kernel_rfl) (by kernel_rfl) (by kernel_rfl) (fun _ _ _ h => h) (by rfl) (fun u _ => by go_simp) hS ?_
                  simp only [Act.put, List.setIfInBounds_toArray, List.set_cons_zero, List.set_cons_succ]
                  refine wpAnyL_take 1 54 (.pointer (some ⟨M, 0, none⟩)) [] rfl rfl (by kernel_rfl) (by kernel_rfl) (by kernel_rfl) (by kernel_rfl) (by kernel_rfl) (fun _ _ _ h => h) (by rfl) (fun u _ => by go_simp) hS ?_
                  simp only [Act.put, List.setIfInBounds_toArray, List.set_cons_zero, List.set_cons_succ]
                  refine wpAnyL_take 2 55 (.pointer (some ⟨M, 0, none⟩)) [] rfl rfl (by kernel_rfl) (by kernel_rfl) (by kernel_rfl) (by kernel_rfl) (by kernel_rfl) (fun _ _ _ h => h) (by rfl) (fun u _ => by go_simp) hS ?_
                  simp only [Act.put, List.setIfInBounds_toArray, List.set_cons_zero, List.set_cons_succ]
                  refine wpAnyL_take 3 56 (.slice (some ⟨gl, 0, none⟩) P cl) [] rfl rfl (by kernel_rfl) (by kernel_rfl) (by kernel_rfl) (by kernel_rfl) (by kernel_rfl) (fun _ _ _ h => h) (by rfl) (fun u hu => by obtain ⟨s1, s2, s3, s4, s5⟩ := hu; go_simp) hS ?_
                  simp only [Act.put, List.setIfInBounds_toArray, List.set_cons_zero, List.set_cons_succ]
                  refine wpAnyL_take 4 57 (.pointer (some ⟨N7, 0, none⟩)) [] rfl rfl (by kernel_rfl) (by kernel_rfl) (by kernel_rfl) (by kernel_rfl) (by kernel_rfl) (fun _ _ _ h => h) (by rfl) (fun u _ => by go_simp) hS ?_
                  simp only [Act.put, List.setIfInBounds_toArray, List.set_cons_zero, List.set_cons_succ]
                  refine wpAnyL_take 5 58 (.int .i64 (pn : Int)) [] rfl rfl (by kernel_rfl) (by kernel_rfl) (by kernel_rfl) (by kernel_rfl) (by kernel_rfl) (fun _ _ _ h => h) (by rfl) (fun u hu => by obtain ⟨s1, s2, s3, s4, s5⟩ := hu; go_simp) hS ?_
                  simp only [Act.put, List.setIfInBounds_toArray, List.set_cons_zero, List.set_cons_succ]
                  refine wpAnyL_take 6 59 (.pointer (some ⟨N7, 1, none⟩)) [] rfl rfl (by kernel_rfl) (by kernel_rfl) (by kernel_rfl) (by kernel_rfl) (by kernel_rfl) (fun _ _ _ h => h) (by rfl) (fun u _ => by go_simp) hS ?_
                  simp only [Act.put, List.setIfInBounds_toArray, List.set_cons_zero, List.set_cons_succ]
                  refine wpAnyL_take 7 60 (.string SP) [] rfl rfl (by kernel_rfl) (by kernel_rfl) (by kernel_rfl) (by kernel_rfl) (by kernel_rfl) (fun _ _ _ h => h) (by rfl) (fun u hu => by obtain ⟨s1, s2, s3, s4, s5⟩ := hu; go_simp) hS ?_
                  simp only [Act.put, List.setIfInBounds_toArray, List.set_cons_zero, List.set_cons_succ]
                  refine wpAnyL_take 8 61 (.int .i64 (sn : Int)) [] rfl rfl (by kernel_rfl) (by kernel_rfl) (by kernel_rfl) (by kernel_rfl) (by kernel_rfl) (fun _ _ _ h => h) (by rfl) (fun u _ => by go_simp) hS ?_
                  simp only [Act.put, List.setIfInBounds_toArray, List.set_cons_zero, List.set_cons_succ]
                  refine wpAnyL_take 9 62 (.string A1) [] rfl rfl (by kernel_rfl) (by kernel_rfl) (by kernel_rfl) (by kernel_rfl) (by kernel_rfl) (fun _ _ _ h => h) (by rfl) (fun u _ => by go_simp) hS ?_
                  simp only [Act.put, List.setIfInBounds_toArray, List.set_cons_zero, List.set_cons_succ]
                  refine wpAnyL_take 10 63 (.pointer (some ⟨M, 0, none⟩)) [] rfl rfl (by kernel_rfl) (by kernel_rfl) (by kernel_rfl) (by kernel_rfl) (by kernel_rfl) (fun _ _ _ h => h) (by rfl) (fun u _ => by go_simp) hS ?_
                  simp only [Act.put, List.setIfInBounds_toArray, List.set_cons_zero, List.set_cons_succ]
                  refine wpAnyL_take 11 64 (.pointer (some ⟨M, 0, none⟩)) [] rfl rfl (by kernel_rfl) (by kernel_rfl) (by kernel_rfl) (by kernel_rfl) (by kernel_rfl) (fun _ _ _ h => h) (by rfl) (fun u _ => by go_simp) hS ?_
                  simp only [Act.put, List.setIfInBounds_toArray, List.set_cons_zero, List.set_cons_succ]
                  refine wpAnyL_take 12 65 (.pointer (some ⟨M, 0, none⟩)) [] rfl rfl (by kernel_rfl) (by kernel_rfl) (by kernel_rfl) (by kernel_rfl) (by kernel_rfl) (fun _ _ _ h => h) (by rfl) (fun u _ => by go_simp) hS ?_
                  simp only [Act.put, List.setIfInBounds_toArray, List.set_cons_zero, List.set_cons_succ]
                  refine wpAnyL_take 13 66 (.slice (some ⟨gl, 0, none⟩) P cl) [] rfl rfl (by kernel_rfl) (by kernel_rfl) (by kernel_rfl) (by kernel_rfl) (by kernel_rfl) (fun _ _ _ h => h) (by rfl) (fun u hu => by obtain ⟨s1, s2, s3, s4, s5⟩ := hu; go_simp) hS ?_
                  simp only [Act.put, List.setIfInBounds_toArray, List.set_cons_zero, List.set_cons_succ]
                  refine wpAnyL_take 14 67 (.pointer (some ⟨N7, 0, none⟩)) [] rfl rfl (by kernel_rfl) (by kernel_rfl) (by kernel_rfl) (by kernel_rfl) (by kernel_rfl) (fun _ _ _ h => h) (by rfl) (fun u _ => by go_simp) hS ?_
                  simp only [Act.put, List.setIfInBounds_toArray, List.set_cons_zero, List.set_cons_succ]
                  refine wpAnyL_take 15 68 (.int .i64 (pn : Int)) [] rfl rfl (by kernel_rfl) (by kernel_rfl) (by kernel_rfl) (by kernel_rfl) (by kernel_rfl) (fun _ _ _ h => h) (by rfl) (fun u hu => by obtain ⟨s1, s2, s3, s4, s5⟩ := hu; go_simp) hS ?_
                  simp only [Act.put, List.setIfInBounds_toArray, List.set_cons_zero, List.set_cons_succ]
                  refine wpAnyL_take 16 69 (.pointer (some ⟨gl, pn, none⟩)) [] rfl rfl (by kernel_rfl) (by kernel_rfl) (by kernel_rfl) (by kernel_rfl) (by kernel_rfl) (fun _ _ _ h => h) (by rfl) (fun u _ => by go_simp) hS ?_
                  simp only [Act.put, List.setIfInBounds_toArray, List.set_cons_zero, List.set_cons_succ]
                  refine wpAnyL_take 17 70 (.string SL) [] rfl rfl (by kernel_rfl) (by kernel_rfl) (by kernel_rfl) (by kernel_rfl) (by kernel_rfl) (fun _ _ _ h => h) (by rfl) (fun u hu => by obtain ⟨s1, s2, s3, s4, s5⟩ := hu; go_simp) hS ?_
                  simp only [Act.put, List.setIfInBounds_toArray, List.set_cons_zero, List.set_cons_succ]
                  refine wpAnyL_take 18 71 (.int .i64 (sn : Int)) [] rfl rfl (by kernel_rfl) (by kernel_rfl) (by kernel_rfl) (by kernel_rfl) (by kernel_rfl) (fun _ _ _ h => h) (by rfl) (fun u _ => by go_simp) hS ?_
                  simp only [Act.put, List.setIfInBounds_toArray, List.set_cons_zero, List.set_cons_succ]
                  refine wpAnyL_take 19 72 (.string A2) [] rfl rfl (by kernel_rfl) (by kernel_rfl) (by kernel_rfl) (by kernel_rfl) (by kernel_rfl) (fun _ _ _ h => h) (by rfl) (fun u _ => by go_simp) hS ?_
                  simp only [Act.put, List.setIfInBounds_toArray, List.set_cons_zero, List.set_cons_succ]
                  refine wpAnyL_take 20 73 (.string (A1 ++ A2)) [] rfl rfl (by kernel_rfl) (by kernel_rfl) (by kernel_rfl) (by kernel_rfl) (by kernel_rfl) (fun _ _ _ h => h) (by rfl) (fun u _ => by go_simp) hS ?_
                  simp only [Act.put, List.setIfInBounds_toArray, List.set_cons_zero, List.set_cons_succ]
                  refine wpAnyL_take 21 74 (.pointer (some ⟨gl, pn, none⟩)) [] rfl rfl (by kernel_rfl) (by kernel_rfl) (by kernel_rfl) (by kernel_rfl) (by kernel_rfl) (fun _ _ _ h => h) (by rfl) (fun u _ => by go_simp) hS ?_
                  simp only [Act.put, List.setIfInBounds_toArray, List.set_cons_zero, List.set_cons_succ]
                  refine wpAnyL_one (i := 22) (by kernel_rfl) rfl (by rfl) fun K hK => ?_
                  obtain ⟨s1, s2, s3, s4, s5⟩ := hS
                  go_simp
                  refine hK _ _ (fun h => absurd rfl h) ?_
                  clear hK K
                  refine wpAnyL_done (by kernel_rfl) ?_ _
                  go_wp2
                  go_roundw
                  case rel => exact ⟨i + 1, by omega, by go_num, (unhide HNX).1.keep fun _ _ => rfl, (unhide HNX).2.1.drew, (unhide HNX).2.2⟩
                  case measure => simp [intOf]; omega
              · by_cases hik : i < ks.length
                · cases hkb : ks[i]
                  · have hkI : (i : Int) < (kn : Int) := by rw [unhide HKN]; omega
                    have HSH := hide hsh
                    clear hsh
                    go_wp2_with (first
                      | (refine wpList_load_mid (by rfl) 95 (.tmp 23) (by rfl) g2 (i * 2) (by rfl) C.toList _ (unhide HR2) refWUnd rfl (by rw [Array.length_toList, (unhide HC1).1]; exact refWInfo) ?_; simp only [Act.put, List.setIfInBounds_toArray, List.set_cons_zero, List.set_cons_succ, Array.toArray_toList])
                      | (refine wpList_alloc_row (by rfl) 95 (by rfl) (some 7) (by rfl) N7 (by exact (unhide HN7).symm) _ zRefW ?_; intro W6 HX6 HB6 HS6; simp only [Act.put, List.setIfInBounds_toArray, List.set_cons_zero, List.set_cons_succ])
                      | (refine wpList_store_row (by rfl) 95 (.tmp 7) (.tmp 24) (by rfl) N7 C (by rfl) (by rfl) 95 _ (unhide HX6) (by rw [(unhide HC1).1]; exact refWInfo) (by rw [(unhide HC1).1]; rfl) (unhide HC1).2.1 ?_
                         have HX7 := hide (heapRow_same (unhide HX6) C)
                         have HB7 := hide (belowRow (unhide HB6) (Nat.le_refl N7) C)
                         generalize W6.setRow N7 C = W7 at *
                         obtain ⟨HS7, HNX, q0, q1, q2⟩ := unhide HGO W7 (unhide HX7) (unhide HB7)
                         obtain ⟨kg, ko, hkao, hkce⟩ := unhide HKC W7 (unhide HB7) hik
                         subst hkao
                         rw [hkb] at hkce
                         simp only [Act.put]))
                    rw [show (Value.int .i64 1024) = .int .i64 (sn : Int) from by rw [show (1024 : Int) = (sn : Int) from by rw [unhide HSH]; rfl]]
                    refine wp_region_last (fun u' => u'.cell? ⟨M, 0, none⟩ = some (.slice (some ⟨gl, 0, none⟩) P cl) ∧ u'.cell? ⟨N7, 0, none⟩ = some (.int .i64 (pn : Int)) ∧ u'.cell? ⟨N7, 1, none⟩ = some (.string SP) ∧ u'.cell? ⟨gl, pn, none⟩ = some (.string SL) ∧ u'.frozen? ⟨gl, pn, none⟩ = false) 22 (by kernel_rfl) (unhide HS7) fun hS => ?_
                    refine wpAnyL_take 0 53 (.pointer (some ⟨M, 0, none⟩)) [] rfl rfl (by kernel_rfl) (by kernel_rfl) (by kernel_rfl) (by kernel_rfl) (by kernel_rfl) (fun _ _ _ h => h) (by rfl) (fun u _ => by go_simp) hS ?_
                    simp only [Act.put, List.setIfInBounds_toArray, List.set_cons_zero, List.set_cons_succ]
                    refine wpAnyL_take 1 54 (.pointer (some ⟨M, 0, none⟩)) [] rfl rfl (by kernel_rfl) (by kernel_rfl) (by kernel_rfl) (by kernel_rfl) (by kernel_rfl) (fun _ _ _ h => h) (by rfl) (fun u _ => by go_simp) hS ?_
                    simp only [Act.put, List.setIfInBounds_toArray, List.set_cons_zero, List.set_cons_succ]
                    refine wpAnyL_take 2 55 (.pointer (some ⟨M, 0, none⟩)) [] rfl rfl (by kernel_rfl) (by kernel_rfl) (by kernel_rfl) (by kernel_rfl) (by kernel_rfl) (fun _ _ _ h => h) (by rfl) (fun u _ => by go_simp) hS ?_
                    simp only [Act.put, List.setIfInBounds_toArray, List.set_cons_zero, List.set_cons_succ]
                    refine wpAnyL_take 3 56 (.slice (some ⟨gl, 0, none⟩) P cl) [] rfl rfl (by kernel_rfl) (by kernel_rfl) (by kernel_rfl) (by kernel_rfl) (by kernel_rfl) (fun _ _ _ h => h) (by rfl) (fun u hu => by obtain ⟨s1, s2, s3, s4, s5⟩ := hu; go_simp) hS ?_
                    simp only [Act.put, List.setIfInBounds_toArray, List.set_cons_zero, List.set_cons_succ]
                    refine wpAnyL_take 4 57 (.pointer (some ⟨N7, 0, none⟩)) [] rfl rfl (by kernel_rfl) (by kernel_rfl) (by kernel_rfl) (by kernel_rfl) (by kernel_rfl) (fun _ _ _ h => h) (by rfl) (fun u _ => by go_simp) hS ?_
                    simp only [Act.put, List.setIfInBounds_toArray, List.set_cons_zero, List.set_cons_succ]
                    refine wpAnyL_take 5 58 (.int .i64 (pn : Int)) [] rfl rfl (by kernel_rfl) (by kernel_rfl) (by kernel_rfl) (by kernel_rfl) (by kernel_rfl) (fun _ _ _ h => h) (by rfl) (fun u hu => by obtain ⟨s1, s2, s3, s4, s5⟩ := hu; go_simp) hS ?_
                    simp only [Act.put, List.setIfInBounds_toArray, List.set_cons_zero, List.set_cons_succ]
                    refine wpAnyL_take 6 59 (.pointer (some ⟨N7, 1, none⟩)) [] rfl rfl (by kernel_rfl) (by kernel_rfl) (by kernel_rfl) (by kernel_rfl) (by kernel_rfl) (fun _ _ _ h => h) (by rfl) (fun u _ => by go_simp) hS ?_
                    simp only [Act.put, List.setIfInBounds_toArray, List.set_cons_zero, List.set_cons_succ]
                    refine wpAnyL_take 7 60 (.string SP) [] rfl rfl (by kernel_rfl) (by kernel_rfl) (by kernel_rfl) (by kernel_rfl) (by kernel_rfl) (fun _ _ _ h => h) (by rfl) (fun u hu => by obtain ⟨s1, s2, s3, s4, s5⟩ := hu; go_simp) hS ?_
                    simp only [Act.put, List.setIfInBounds_toArray, List.set_cons_zero, List.set_cons_succ]
                    refine wpAnyL_take 8 61 (.int .i64 (sn : Int)) [] rfl rfl (by kernel_rfl) (by kernel_rfl) (by kernel_rfl) (by kernel_rfl) (by kernel_rfl) (fun _ _ _ h => h) (by rfl) (fun u _ => by go_simp) hS ?_
                    simp only [Act.put, List.setIfInBounds_toArray, List.set_cons_zero, List.set_cons_succ]
                    refine wpAnyL_take 9 62 (.string A1) [] rfl rfl (by kernel_rfl) (by kernel_rfl) (by kernel_rfl) (by kernel_rfl) (by kernel_rfl) (fun _ _ _ h => h) (by rfl) (fun u _ => by go_simp) hS ?_
                    simp only [Act.put, List.setIfInBounds_toArray, List.set_cons_zero, List.set_cons_succ]
                    refine wpAnyL_take 10 63 (.pointer (some ⟨M, 0, none⟩)) [] rfl rfl (by kernel_rfl) (by kernel_rfl) (by kernel_rfl) (by kernel_rfl) (by kernel_rfl) (fun _ _ _ h => h) (by rfl) (fun u _ => by go_simp) hS ?_
                    simp only [Act.put, List.setIfInBounds_toArray, List.set_cons_zero, List.set_cons_succ]
                    refine wpAnyL_take 11 64 (.pointer (some ⟨M, 0, none⟩)) [] rfl rfl (by kernel_rfl) (by kernel_rfl) (by kernel_rfl) (by kernel_rfl) (by kernel_rfl) (fun _ _ _ h => h) (by rfl) (fun u _ => by go_simp) hS ?_
                    simp only [Act.put, List.setIfInBounds_toArray, List.set_cons_zero, List.set_cons_succ]
                    refine wpAnyL_take 12 65 (.pointer (some ⟨M, 0, none⟩)) [] rfl rfl (by kernel_rfl) (by kernel_rfl) (by kernel_rfl) (by kernel_rfl) (by kernel_rfl) (fun _ _ _ h => h) (by rfl) (fun u _ => by go_simp) hS ?_
                    simp only [Act.put, List.setIfInBounds_toArray, List.set_cons_zero, List.set_cons_succ]
                    refine wpAnyL_take 13 66 (.slice (some ⟨gl, 0, none⟩) P cl) [] rfl rfl (by kernel_rfl) (by kernel_rfl) (by kernel_rfl) (by kernel_rfl) (by kernel_rfl) (fun _ _ _ h => h) (by rfl) (fun u hu => by obtain ⟨s1, s2, s3, s4, s5⟩ := hu; go_simp) hS ?_
                    simp only [Act.put, List.setIfInBounds_toArray, List.set_cons_zero, List.set_cons_succ]
                    refine wpAnyL_take 14 67 (.pointer (some ⟨N7, 0, none⟩)) [] rfl rfl (by kernel_rfl) (by kernel_rfl) (by kernel_rfl) (by kernel_rfl) (by kernel_rfl) (fun _ _ _ h => h) (by rfl) (fun u _ => by go_simp) hS ?_
                    simp only [Act.put, List.setIfInBounds_toArray, List.set_cons_zero, List.set_cons_succ]
                    refine wpAnyL_take 15 68 (.int .i64 (pn : Int)) [] rfl rfl (by kernel_rfl) (by kernel_rfl) (by kernel_rfl) (by kernel_rfl) (by kernel_rfl) (fun _ _ _ h => h) (by rfl) (fun u hu => by obtain ⟨s1, s2, s3, s4, s5⟩ := hu; go_simp) hS ?_
                    simp only [Act.put, List.setIfInBounds_toArray, List.set_cons_zero, List.set_cons_succ]
                    refine wpAnyL_take 16 69 (.pointer (some ⟨gl, pn, none⟩)) [] rfl rfl (by kernel_rfl) (by kernel_rfl) (by kernel_rfl) (by kernel_rfl) (by kernel_rfl) (fun _ _ _ h => h) (by rfl) (fun u _ => by go_simp) hS ?_
                    simp only [Act.put, List.setIfInBounds_toArray, List.set_cons_zero, List.set_cons_succ]
                    refine wpAnyL_take 17 70 (.string SL) [] rfl rfl (by kernel_rfl) (by kernel_rfl) (by kernel_rfl) (by kernel_rfl) (by kernel_rfl) (fun _ _ _ h => h) (by rfl) (fun u hu => by obtain ⟨s1, s2, s3, s4, s5⟩ := hu; go_simp) hS ?_
                    simp only [Act.put, List.setIfInBounds_toArray, List.set_cons_zero, List.set_cons_succ]
                    refine wpAnyL_take 18 71 (.int .i64 (sn : Int)) [] rfl rfl (by kernel_rfl) (by kernel_rfl) (by kernel_rfl) (by kernel_rfl) (by kernel_rfl) (fun _ _ _ h => h) (by rfl) (fun u _ => by go_simp) hS ?_
                    simp only [Act.put, List.setIfInBounds_toArray, List.set_cons_zero, List.set_cons_succ]
                    refine wpAnyL_take 19 72 (.string A2) [] rfl rfl (by kernel_rfl) (by kernel_rfl) (by kernel_rfl) (by kernel_rfl) (by kernel_rfl) (fun _ _ _ h => h) (by rfl) (fun u _ => by go_simp) hS ?_
                    simp only [Act.put, List.setIfInBounds_toArray, List.set_cons_zero, List.set_cons_succ]
                    refine wpAnyL_take 20 73 (.string (A1 ++ A2)) [] rfl rfl (by kernel_rfl) (by kernel_rfl) (by kernel_rfl) (by kernel_rfl) (by kernel_rfl) (fun _ _ _ h => h) (by rfl) (fun u _ => by go_simp) hS ?_
                    simp only [Act.put, List.setIfInBounds_toArray, List.set_cons_zero, List.set_cons_succ]
                    refine wpAnyL_take 21 74 (.pointer (some ⟨gl, pn, none⟩)) [] rfl rfl (by kernel_rfl) (by kernel_rfl) (by kernel_rfl) (by kernel_rfl) (by kernel_rfl) (fun _ _ _ h => h) (by rfl) (fun u _ => by go_simp) hS ?_
                    simp only [Act.put, List.setIfInBounds_toArray, List.set_cons_zero, List.set_cons_succ]
                    refine wpAnyL_one (i := 22) (by kernel_rfl) rfl (by rfl) fun K hK => ?_
                    obtain ⟨s1, s2, s3, s4, s5⟩ := hS
                    go_simp
                    refine hK _ _ (fun h => absurd rfl h) ?_
                    clear hK K
                    refine wpAnyL_done (by kernel_rfl) ?_ _
                    go_wp2
                    go_roundw
                    case rel => exact ⟨i + 1, by omega, by go_num, (unhide HNX).1.keep fun _ _ => rfl, (unhide HNX).2.1.drew, (unhide HNX).2.2⟩
                    case measure => simp [intOf]; omega
                  · have hkI : (i : Int) < (kn : Int) := by rw [unhide HKN]; omega
                    have HSH := hide hsh
                    clear hsh
                    go_wp2_with (first
                      | (refine wpList_load_mid (by rfl) 95 (.tmp 23) (by rfl) g2 (i * 2) (by rfl) C.toList _ (unhide HR2) refWUnd rfl (by rw [Array.length_toList, (unhide HC1).1]; exact refWInfo) ?_; simp only [Act.put, List.setIfInBounds_toArray, List.set_cons_zero, List.set_cons_succ, Array.toArray_toList])
                      | (refine wpList_alloc_row (by rfl) 95 (by rfl) (some 7) (by rfl) N7 (by exact (unhide HN7).symm) _ zRefW ?_; intro W6 HX6 HB6 HS6; simp only [Act.put, List.setIfInBounds_toArray, List.set_cons_zero, List.set_cons_succ])
                      | (refine wpList_store_row (by rfl) 95 (.tmp 7) (.tmp 24) (by rfl) N7 C (by rfl) (by rfl) 95 _ (unhide HX6) (by rw [(unhide HC1).1]; exact refWInfo) (by rw [(unhide HC1).1]; rfl) (unhide HC1).2.1 ?_
                         have HX7 := hide (heapRow_same (unhide HX6) C)
                         have HB7 := hide (belowRow (unhide HB6) (Nat.le_refl N7) C)
                         generalize W6.setRow N7 C = W7 at *
                         obtain ⟨HS7, HNX, q0, q1, q2⟩ := unhide HGO W7 (unhide HX7) (unhide HB7)
                         obtain ⟨kg, ko, hkao, hkce⟩ := unhide HKC W7 (unhide HB7) hik
                         subst hkao
                         rw [hkb] at hkce
                         simp only [Act.put]))
                    rw [show (Value.int .i64 1024) = .int .i64 (sn : Int) from by rw [show (1024 : Int) = (sn : Int) from by rw [unhide HSH]; rfl]]
                    refine wp_region_last (fun u' => u'.cell? ⟨M, 0, none⟩ = some (.slice (some ⟨gl, 0, none⟩) P cl) ∧ u'.cell? ⟨N7, 0, none⟩ = some (.int .i64 (pn : Int)) ∧ u'.cell? ⟨N7, 1, none⟩ = some (.string SP) ∧ u'.cell? ⟨gl, pn, none⟩ = some (.string SL) ∧ u'.frozen? ⟨gl, pn, none⟩ = false) 22 (by kernel_rfl) (unhide HS7) fun hS => ?_
                    refine wpAnyL_take 0 53 (.pointer (some ⟨M, 0, none⟩)) [] rfl rfl (by kernel_rfl) (by kernel_rfl) (by kernel_rfl) (by kernel_rfl) (by kernel_rfl) (fun _ _ _ h => h) (by rfl) (fun u _ => by go_simp) hS ?_
                    simp only [Act.put, List.setIfInBounds_toArray, List.set_cons_zero, List.set_cons_succ]
                    refine wpAnyL_take 1 54 (.pointer (some ⟨M, 0, none⟩)) [] rfl rfl (by kernel_rfl) (by kernel_rfl) (by kernel_rfl) (by kernel_rfl) (by kernel_rfl) (fun _ _ _ h => h) (by rfl) (fun u _ => by go_simp) hS ?_
                    simp only [Act.put, List.setIfInBounds_toArray, List.set_cons_zero, List.set_cons_succ]
                    refine wpAnyL_take 2 55 (.pointer (some ⟨M, 0, none⟩)) [] rfl rfl (by kernel_rfl) (by kernel_rfl) (by kernel_rfl) (by kernel_rfl) (by kernel_rfl) (fun _ _ _ h => h) (by rfl) (fun u _ => by go_simp) hS ?_
                    simp only [Act.put, List.setIfInBounds_toArray, List.set_cons_zero, List.set_cons_succ]
                    refine wpAnyL_take 3 56 (.slice (some ⟨gl, 0, none⟩) P cl) [] rfl rfl (by kernel_rfl) (by kernel_rfl) (by kernel_rfl) (by kernel_rfl) (by kernel_rfl) (fun _ _ _ h => h) (by rfl) (fun u hu => by obtain ⟨s1, s2, s3, s4, s5⟩ := hu; go_simp) hS ?_
                    simp only [Act.put, List.setIfInBounds_toArray, List.set_cons_zero, List.set_cons_succ]
                    refine wpAnyL_take 4 57 (.pointer (some ⟨N7, 0, none⟩)) [] rfl rfl (by kernel_rfl) (by kernel_rfl) (by kernel_rfl) (by kernel_rfl) (by kernel_rfl) (fun _ _ _ h => h) (by rfl) (fun u _ => by go_simp) hS ?_
                    simp only [Act.put, List.setIfInBounds_toArray, List.set_cons_zero, List.set_cons_succ]
                    refine wpAnyL_take 5 58 (.int .i64 (pn : Int)) [] rfl rfl (by kernel_rfl) (by kernel_rfl) (by kernel_rfl) (by kernel_rfl) (by kernel_rfl) (fun _ _ _ h => h) (by rfl) (fun u hu => by obtain ⟨s1, s2, s3, s4, s5⟩ := hu; go_simp) hS ?_
                    simp only [Act.put, List.setIfInBounds_toArray, List.set_cons_zero, List.set_cons_succ]
                    refine wpAnyL_take 6 59 (.pointer (some ⟨N7, 1, none⟩)) [] rfl rfl (by kernel_rfl) (by kernel_rfl) (by kernel_rfl) (by kernel_rfl) (by kernel_rfl) (fun _ _ _ h => h) (by rfl) (fun u _ => by go_simp) hS ?_
                    simp only [Act.put, List.setIfInBounds_toArray, List.set_cons_zero, List.set_cons_succ]
                    refine wpAnyL_take 7 60 (.string SP) [] rfl rfl (by kernel_rfl) (by kernel_rfl) (by kernel_rfl) (by kernel_rfl) (by kernel_rfl) (fun _ _ _ h => h) (by rfl) (fun u hu => by obtain ⟨s1, s2, s3, s4, s5⟩ := hu; go_simp) hS ?_
                    simp only [Act.put, List.setIfInBounds_toArray, List.set_cons_zero, List.set_cons_succ]
                    refine wpAnyL_take 8 61 (.int .i64 (sn : Int)) [] rfl rfl (by kernel_rfl) (by kernel_rfl) (by kernel_rfl) (by kernel_rfl) (by kernel_rfl) (fun _ _ _ h => h) (by rfl) (fun u _ => by go_simp) hS ?_
                    simp only [Act.put, List.setIfInBounds_toArray, List.set_cons_zero, List.set_cons_succ]
                    refine wpAnyL_take 9 62 (.string A1) [] rfl rfl (by kernel_rfl) (by kernel_rfl) (by kernel_rfl) (by kernel_rfl) (by kernel_rfl) (fun _ _ _ h => h) (by rfl) (fun u _ => by go_simp) hS ?_
                    simp only [Act.put, List.setIfInBounds_toArray, List.set_cons_zero, List.set_cons_succ]
                    refine wpAnyL_take 10 63 (.pointer (some ⟨M, 0, none⟩)) [] rfl rfl (by kernel_rfl) (by kernel_rfl) (by kernel_rfl) (by kernel_rfl) (by kernel_rfl) (fun _ _ _ h => h) (by rfl) (fun u _ => by go_simp) hS ?_
                    simp only [Act.put, List.setIfInBounds_toArray, List.set_cons_zero, List.set_cons_succ]
                    refine wpAnyL_take 11 64 (.pointer (some ⟨M, 0, none⟩)) [] rfl rfl (by kernel_rfl) (by kernel_rfl) (by kernel_rfl) (by kernel_rfl) (by kernel_rfl) (fun _ _ _ h => h) (by rfl) (fun u _ => by go_simp) hS ?_
                    simp only [Act.put, List.setIfInBounds_toArray, List.set_cons_zero, List.set_cons_succ]
                    refine wpAnyL_take 12 65 (.pointer (some ⟨M, 0, none⟩)) [] rfl rfl (by kernel_rfl) (by kernel_rfl) (by kernel_rfl) (by kernel_rfl) (by kernel_rfl) (fun _ _ _ h => h) (by rfl) (fun u _ => by go_simp) hS ?_
                    simp only [Act.put, List.setIfInBounds_toArray, List.set_cons_zero, List.set_cons_succ]
                    refine wpAnyL_take 13 66 (.slice (some ⟨gl, 0, none⟩) P cl) [] rfl rfl (by kernel_rfl) (by kernel_rfl) (by kernel_rfl) (by kernel_rfl) (by kernel_rfl) (fun _ _ _ h => h) (by rfl) (fun u hu => by obtain ⟨s1, s2, s3, s4, s5⟩ := hu; go_simp) hS ?_
                    simp only [Act.put, List.setIfInBounds_toArray, List.set_cons_zero, List.set_cons_succ]
                    refine wpAnyL_take 14 67 (.pointer (some ⟨N7, 0, none⟩)) [] rfl rfl (by kernel_rfl) (by kernel_rfl) (by kernel_rfl) (by kernel_rfl) (by kernel_rfl) (fun _ _ _ h => h) (by rfl) (fun u _ => by go_simp) hS ?_
                    simp only [Act.put, List.setIfInBounds_toArray, List.set_cons_zero, List.set_cons_succ]
                    refine wpAnyL_take 15 68 (.int .i64 (pn : Int)) [] rfl rfl (by kernel_rfl) (by kernel_rfl) (by kernel_rfl) (by kernel_rfl) (by kernel_rfl) (fun _ _ _ h => h) (by rfl) (fun u hu => by obtain ⟨s1, s2, s3, s4, s5⟩ := hu; go_simp) hS ?_
                    simp only [Act.put, List.setIfInBounds_toArray, List.set_cons_zero, List.set_cons_succ]
                    refine wpAnyL_take 16 69 (.pointer (some ⟨gl, pn, none⟩)) [] rfl rfl (by kernel_rfl) (by kernel_rfl) (by kernel_rfl) (by kernel_rfl) (by kernel_rfl) (fun _ _ _ h => h) (by rfl) (fun u _ => by go_simp) hS ?_
                    simp only [Act.put, List.setIfInBounds_toArray, List.set_cons_zero, List.set_cons_succ]
                    refine wpAnyL_take 17 70 (.string SL) [] rfl rfl (by kernel_rfl) (by kernel_rfl) (by kernel_rfl) (by kernel_rfl) (by kernel_rfl) (fun _ _ _ h => h) (by rfl) (fun u hu => by obtain ⟨s1, s2, s3, s4, s5⟩ := hu; go_simp) hS ?_
                    simp only [Act.put, List.setIfInBounds_toArray, List.set_cons_zero, List.set_cons_succ]
                    refine wpAnyL_take 18 71 (.int .i64 (sn : Int)) [] rfl rfl (by kernel_rfl) (by kernel_rfl) (by kernel_rfl) (by kernel_rfl) (by kernel_rfl) (fun _ _ _ h => h) (by rfl) (fun u _ => by go_simp) hS ?_
                    simp only [Act.put, List.setIfInBounds_toArray, List.set_cons_zero, List.set_cons_succ]
                    refine wpAnyL_take 19 72 (.string A2) [] rfl rfl (by kernel_rfl) (by kernel_rfl) (by kernel_rfl) (by kernel_rfl) (by kernel_rfl) (fun _ _ _ h => h) (by rfl) (fun u _ => by go_simp) hS ?_
                    simp only [Act.put, List.setIfInBounds_toArray, List.set_cons_zero, List.set_cons_succ]
                    refine wpAnyL_take 20 73 (.string (A1 ++ A2)) [] rfl rfl (by kernel_rfl) (by kernel_rfl) (by kernel_rfl) (by kernel_rfl) (by kernel_rfl) (fun _ _ _ h => h) (by rfl) (fun u _ => by go_simp) hS ?_
                    simp only [Act.put, List.setIfInBounds_toArray, List.set_cons_zero, List.set_cons_succ]
                    refine wpAnyL_take 21 74 (.pointer (some ⟨gl, pn, none⟩)) [] rfl rfl (by kernel_rfl) (by kernel_rfl) (by kernel_rfl) (by kernel_rfl) (by kernel_rfl) (fun _ _ _ h => h) (by rfl) (fun u _ => by go_simp) hS ?_
                    simp only [Act.put, List.setIfInBounds_toArray, List.set_cons_zero, List.set_cons_succ]
                    refine wpAnyL_one (i := 22) (by kernel_rfl) rfl (by rfl) fun K hK => ?_
                    obtain ⟨s1, s2, s3, s4, s5⟩ := hS
                    go_simp
                    refine hK _ _ (fun h => absurd rfl h) ?_
                    clear hK K
                    refine wpAnyL_done (by kernel_rfl) ?_ _
                    go_wp2
                    go_roundw
                    case rel => exact ⟨i + 1, by omega, by go_num, (unhide HNX).1.keep fun _ _ => rfl, (unhide HNX).2.1.drew, (unhide HNX).2.2⟩
                    case measure => simp [intOf]; omega
                · have hkO : ¬ (i : Int) < (kn : Int) := by rw [unhide HKN]; omega
                  have HSH := hide hsh
                  clear hsh
                  go_wp2_with (first
                    | (refine wpList_load_mid (by rfl) 95 (.tmp 23) (by rfl) g2 (i * 2) (by rfl) C.toList _ (unhide HR2) refWUnd rfl (by rw [Array.length_toList, (unhide HC1).1]; exact refWInfo) ?_; simp only [Act.put, List.setIfInBounds_toArray, List.set_cons_zero, List.set_cons_succ, Array.toArray_toList])
                    | (refine wpList_alloc_row (by rfl) 95 (by rfl) (some 7) (by rfl) N7 (by exact (unhide HN7).symm) _ zRefW ?_; intro W6 HX6 HB6 HS6; simp only [Act.put, List.setIfInBounds_toArray, List.set_cons_zero, List.set_cons_succ])
                    | (refine wpList_store_row (by rfl) 95 (.tmp 7) (.tmp 24) (by rfl) N7 C (by rfl) (by rfl) 95 _ (unhide HX6) (by rw [(unhide HC1).1]; exact refWInfo) (by rw [(unhide HC1).1]; rfl) (unhide HC1).2.1 ?_
                       have HX7 := hide (heapRow_same (unhide HX6) C)
                       have HB7 := hide (belowRow (unhide HB6) (Nat.le_refl N7) C)
                       generalize W6.setRow N7 C = W7 at *
                       obtain ⟨HS7, HNX, q0, q1, q2⟩ := unhide HGO W7 (unhide HX7) (unhide HB7)
                       simp only [Act.put]))
                  rw [show (Value.int .i64 1024) = .int .i64 (sn : Int) from by rw [show (1024 : Int) = (sn : Int) from by rw [unhide HSH]; rfl]]
                  refine wp_region_last (fun u' => u'.cell? ⟨M, 0, none⟩ = some (.slice (some ⟨gl, 0, none⟩) P cl) ∧ u'.cell? ⟨N7, 0, none⟩ = some (.int .i64 (pn : Int)) ∧ u'.cell? ⟨N7, 1, none⟩ = some (.string SP) ∧ u'.cell? ⟨gl, pn, none⟩ = some (.string SL) ∧ u'.frozen? ⟨gl, pn, none⟩ = false) 22 (by kernel_rfl) (unhide HS7) fun hS => ?_
                  refine wpAnyL_take 0 53 (.pointer (some ⟨M, 0, none⟩)) [] rfl rfl (by kernel_rfl) (by kernel_rfl) (by kernel_rfl) (by kernel_rfl) (by kernel_rfl) (fun _ _ _ h => h) (by rfl) (fun u _ => by go_simp) hS ?_
                  simp only [Act.put, List.setIfInBounds_toArray, List.set_cons_zero, List.set_cons_succ]
                  refine wpAnyL_take 1 54 (.pointer (some ⟨M, 0, none⟩)) [] rfl rfl (by kernel_rfl) (by kernel_rfl) (by kernel_rfl) (by kernel_rfl) (by kernel_rfl) (fun _ _ _ h => h) (by rfl) (fun u _ => by go_simp) hS ?_
                  simp only [Act.put, List.setIfInBounds_toArray, List.set_cons_zero, List.set_cons_succ]
                  refine wpAnyL_take 2 55 (.pointer (some ⟨M, 0, none⟩)) [] rfl rfl (by kernel_rfl) (by kernel_rfl) (by kernel_rfl) (by kernel_rfl) (by kernel_rfl) (fun _ _ _ h => h) (by rfl) (fun u _ => by go_simp) hS ?_
                  simp only [Act.put, List.setIfInBounds_toArray, List.set_cons_zero, List.set_cons_succ]
                  refine wpAnyL_take 3 56 (.slice (some ⟨gl, 0, none⟩) P cl) [] rfl rfl (by kernel_rfl) (by kernel_rfl) (by kernel_rfl) (by kernel_rfl) (by kernel_rfl) (fun _ _ _ h => h) (by rfl) (fun u hu => by obtain ⟨s1, s2, s3, s4, s5⟩ := hu; go_simp) hS ?_
                  simp only [Act.put, List.setIfInBounds_toArray, List.set_cons_zero, List.set_cons_succ]
                  refine wpAnyL_take 4 57 (.pointer (some ⟨N7, 0, none⟩)) [] rfl rfl (by kernel_rfl) (by kernel_rfl) (by kernel_rfl) (by kernel_rfl) (by kernel_rfl) (fun _ _ _ h => h) (by rfl) (fun u _ => by go_simp) hS ?_
                  simp only [Act.put, List.setIfInBounds_toArray, List.set_cons_zero, List.set_cons_succ]
                  refine wpAnyL_take 5 58 (.int .i64 (pn : Int)) [] rfl rfl (by kernel_rfl) (by kernel_rfl) (by kernel_rfl) (by kernel_rfl) (by kernel_rfl) (fun _ _ _ h => h) (by rfl) (fun u hu => by obtain ⟨s1, s2, s3, s4, s5⟩ := hu; go_simp) hS ?_
                  simp only [Act.put, List.setIfInBounds_toArray, List.set_cons_zero, List.set_cons_succ]
                  refine wpAnyL_take 6 59 (.pointer (some ⟨N7, 1, none⟩)) [] rfl rfl (by kernel_rfl) (by kernel_rfl) (by kernel_rfl) (by kernel_rfl) (by kernel_rfl) (fun _ _ _ h => h) (by rfl) (fun u _ => by go_simp) hS ?_
                  simp only [Act.put, List.setIfInBounds_toArray, List.set_cons_zero, List.set_cons_succ]
                  refine wpAnyL_take 7 60 (.string SP) [] rfl rfl (by kernel_rfl) (by kernel_rfl) (by kernel_rfl) (by kernel_rfl) (by kernel_rfl) (fun _ _ _ h => h) (by rfl) (fun u hu => by obtain ⟨s1, s2, s3, s4, s5⟩ := hu; go_simp) hS ?_
                  simp only [Act.put, List.setIfInBounds_toArray, List.set_cons_zero, List.set_cons_succ]
                  refine wpAnyL_take 8 61 (.int .i64 (sn : Int)) [] rfl rfl (by kernel_rfl) (by kernel_rfl) (by kernel_rfl) (by kernel_rfl) (by kernel_rfl) (fun _ _ _ h => h) (by rfl) (fun u _ => by go_simp) hS ?_
                  simp only [Act.put, List.setIfInBounds_toArray, List.set_cons_zero, List.set_cons_succ]
                  refine wpAnyL_take 9 62 (.string A1) [] rfl rfl (by kernel_rfl) (by kernel_rfl) (by kernel_rfl) (by kernel_rfl) (by kernel_rfl) (fun _ _ _ h => h) (by rfl) (fun u _ => by go_simp) hS ?_
                  simp only [Act.put, List.setIfInBounds_toArray, List.set_cons_zero, List.set_cons_succ]
                  refine wpAnyL_take 10 63 (.pointer (some ⟨M, 0, none⟩)) [] rfl rfl (by kernel_rfl) (by kernel_rfl) (by kernel_rfl) (by kernel_rfl) (by kernel_rfl) (fun _ _ _ h => h) (by rfl) (fun u _ => by go_simp) hS ?_
                  simp only [Act.put, List.setIfInBounds_toArray, List.set_cons_zero, List.set_cons_succ]
                  refine wpAnyL_take 11 64 (.pointer (some ⟨M, 0, none⟩)) [] rfl rfl (by kernel_rfl) (by kernel_rfl) (by kernel_rfl) (by kernel_rfl) (by kernel_rfl) (fun _ _ _ h => h) (by rfl) (fun u _ => by go_simp) hS ?_
                  simp only [Act.put, List.setIfInBounds_toArray, List.set_cons_zero, List.set_cons_succ]
                  refine wpAnyL_take 12 65 (.pointer (some ⟨M, 0, none⟩)) [] rfl rfl (by kernel_rfl) (by kernel_rfl) (by kernel_rfl) (by kernel_rfl) (by kernel_rfl) (fun _ _ _ h => h) (by rfl) (fun u _ => by go_simp) hS ?_
                  simp only [Act.put, List.setIfInBounds_toArray, List.set_cons_zero, List.set_cons_succ]
                  refine wpAnyL_take 13 66 (.slice (some ⟨gl, 0, none⟩) P cl) [] rfl rfl (by kernel_rfl) (by kernel_rfl) (by kernel_rfl) (by kernel_rfl) (by kernel_rfl) (fun _ _ _ h => h) (by rfl) (fun u hu => by obtain ⟨s1, s2, s3, s4, s5⟩ := hu; go_simp) hS ?_
                  simp only [Act.put, List.setIfInBounds_toArray, List.set_cons_zero, List.set_cons_succ]
                  refine wpAnyL_take 14 67 (.pointer (some ⟨N7, 0, none⟩)) [] rfl rfl (by kernel_rfl) (by kernel_rfl) (by kernel_rfl) (by kernel_rfl) (by kernel_rfl) (fun _ _ _ h => h) (by rfl) (fun u _ => by go_simp) hS ?_
                  simp only [Act.put, List.setIfInBounds_toArray, List.set_cons_zero, List.set_cons_succ]
                  refine wpAnyL_take 15 68 (.int .i64 (pn : Int)) [] rfl rfl (by kernel_rfl) (by kernel_rfl) (by kernel_rfl) (by kernel_rfl) (by kernel_rfl) (fun _ _ _ h => h) (by rfl) (fun u hu => by obtain ⟨s1, s2, s3, s4, s5⟩ := hu; go_simp) hS ?_
                  simp only [Act.put, List.setIfInBounds_toArray, List.set_cons_zero, List.set_cons_succ]
                  refine wpAnyL_take 16 69 (.pointer (some ⟨gl, pn, none⟩)) [] rfl rfl (by kernel_rfl) (by kernel_rfl) (by kernel_rfl) (by kernel_rfl) (by kernel_rfl) (fun _ _ _ h => h) (by rfl) (fun u _ => by go_simp) hS ?_
                  simp only [Act.put, List.setIfInBounds_toArray, List.set_cons_zero, List.set_cons_succ]
                  refine wpAnyL_take 17 70 (.string SL) [] rfl rfl (by kernel_rfl) (by kernel_rfl) (by kernel_rfl) (by kernel_rfl) (by kernel_rfl) (fun _ _ _ h => h) (by rfl) (fun u hu => by obtain ⟨s1, s2, s3, s4, s5⟩ := hu; go_simp) hS ?_
                  simp only [Act.put, List.setIfInBounds_toArray, List.set_cons_zero, List.set_cons_succ]
                  refine wpAnyL_take 18 71 (.int .i64 (sn : Int)) [] rfl rfl (by kernel_rfl) (by kernel_rfl) (by kernel_rfl) (by kernel_rfl) (by kernel_rfl) (fun _ _ _ h => h) (by rfl) (fun u _ => by go_simp) hS ?_
                  simp only [Act.put, List.setIfInBounds_toArray, List.set_cons_zero, List.set_cons_succ]
                  refine wpAnyL_take 19 72 (.string A2) [] rfl rfl (by kernel_rfl) (by kernel_rfl) (by kernel_rfl) (by kernel_rfl) (by kernel_rfl) (fun _ _ _ h => h) (by rfl) (fun u _ => by go_simp) hS ?_
                  simp only [Act.put, List.setIfInBounds_toArray, List.set_cons_zero, List.set_cons_succ]
                  refine wpAnyL_take 20 73 (.string (A1 ++ A2)) [] rfl rfl (by kernel_rfl) (by kernel_rfl) (by kernel_rfl) (by kernel_rfl) (by kernel_rfl) (fun _ _ _ h => h) (by rfl) (fun u _ => by go_simp) hS ?_
                  simp only [Act.put, List.setIfInBounds_toArray, List.set_cons_zero, List.set_cons_succ]
                  refine wpAnyL_take 21 74 (.pointer (some ⟨gl, pn, none⟩)) [] rfl rfl (by kernel_rfl) (by kernel_rfl) (by kernel_rfl) (by kernel_rfl) (by kernel_rfl) (fun _ _ _ h => h) (by rfl) (fun u _ => by go_simp) hS ?_
                  simp only [Act.put, List.setIfInBounds_toArray, List.set_cons_zero, List.set_cons_succ]
                  refine wpAnyL_one (i := 22) (by kernel_rfl) rfl (by rfl) fun K hK => ?_
                  obtain ⟨s1, s2, s3, s4, s5⟩ := hS
                  go_simp
                  refine hK _ _ (fun h => absurd rfl h) ?_
                  clear hK K
                  refine wpAnyL_done (by kernel_rfl) ?_ _
                  go_wp2
                  go_roundw
                  case rel => exact ⟨i + 1, by omega, by go_num, (unhide HNX).1.keep fun _ _ => rfl, (unhide HNX).2.1.drew, (unhide HNX).2.2⟩
                  case measure => simp [intOf]; omega
        · have hsh : sn = if ks.getD i false then 1024 else 0 := by rw [unhide HSN, lshare, if_neg (by decide), share, if_neg ht]
          by_cases hik : i < ks.length
          · cases hkb : ks[i]
            · have hkI : (i : Int) < (kn : Int) := by rw [unhide HKN]; omega
              have hgd : ks.getD i false = false := by rw [List.getD_eq_getElem?_getD, List.getElem?_eq_getElem hik, Option.getD_some, hkb]
              rw [hgd, if_neg (by decide)] at hsh
              have HSH := hide hsh
              clear hsh hgd
              go_wp2_with (first
                | (refine wpList_load_mid (by rfl) 95 (.tmp 23) (by rfl) g2 (i * 2) (by rfl) C.toList _ (unhide HR2) refWUnd rfl (by rw [Array.length_toList, (unhide HC1).1]; exact refWInfo) ?_; simp only [Act.put, List.setIfInBounds_toArray, List.set_cons_zero, List.set_cons_succ, Array.toArray_toList])
                | (refine wpList_alloc_row (by rfl) 95 (by rfl) (some 7) (by rfl) N7 (by exact (unhide HN7).symm) _ zRefW ?_; intro W6 HX6 HB6 HS6; simp only [Act.put, List.setIfInBounds_toArray, List.set_cons_zero, List.set_cons_succ])
                | (refine wpList_store_row (by rfl) 95 (.tmp 7) (.tmp 24) (by rfl) N7 C (by rfl) (by rfl) 95 _ (unhide HX6) (by rw [(unhide HC1).1]; exact refWInfo) (by rw [(unhide HC1).1]; rfl) (unhide HC1).2.1 ?_
                   have HX7 := hide (heapRow_same (unhide HX6) C)
                   have HB7 := hide (belowRow (unhide HB6) (Nat.le_refl N7) C)
                   generalize W6.setRow N7 C = W7 at *
                   obtain ⟨HS7, HNX, q0, q1, q2⟩ := unhide HGO W7 (unhide HX7) (unhide HB7)
                   obtain ⟨kg, ko, hkao, hkce⟩ := unhide HKC W7 (unhide HB7) hik
                   subst hkao
                   rw [hkb] at hkce
                   simp only [Act.put]))
              rw [show (Value.int .i64 0) = .int .i64 (sn : Int) from by rw [show (0 : Int) = (sn : Int) from by rw [unhide HSH]; rfl]]
              refine wp_region_last (fun u' => u'.cell? ⟨M, 0, none⟩ = some (.slice (some ⟨gl, 0, none⟩) P cl) ∧ u'.cell? ⟨N7, 0, none⟩ = some (.int .i64 (pn : Int)) ∧ u'.cell? ⟨N7, 1, none⟩ = some (.string SP) ∧ u'.cell? ⟨gl, pn, none⟩ = some (.string SL) ∧ u'.frozen? ⟨gl, pn, none⟩ = false) 22 (by kernel_rfl) (unhide HS7) fun hS => ?_
              refine wpAnyL_take 0 53 (.pointer (some ⟨M, 0, none⟩)) [] rfl rfl (by kernel_rfl) (by kernel_rfl) (by kernel_rfl) (by kernel_rfl) (by kernel_rfl) (fun _ _ _ h => h) (by rfl) (fun u _ => by go_simp) hS ?_
              simp only [Act.put, List.setIfInBounds_toArray, List.set_cons_zero, List.set_cons_succ]
              refine wpAnyL_take 1 54 (.pointer (some ⟨M, 0, none⟩)) [] rfl rfl (by kernel_rfl) (by kernel_rfl) (by kernel_rfl) (by kernel_rfl) (by kernel_rfl) (fun _ _ _ h => h) (by rfl) (fun u _ => by go_simp) hS ?_
              simp only [Act.put, List.setIfInBounds_toArray, List.set_cons_zero, List.set_cons_succ]
              refine wpAnyL_take 2 55 (.pointer (some ⟨M, 0, none⟩)) [] rfl rfl (by kernel_rfl) (by kernel_rfl) (by kernel_rfl) (by kernel_rfl) (by kernel_rfl) (fun _ _ _ h => h) (by rfl) (fun u _ => by go_simp) hS ?_
              simp only [Act.put, List.setIfInBounds_toArray, List.set_cons_zero, List.set_cons_succ]
              refine wpAnyL_take 3 56 (.slice (some ⟨gl, 0, none⟩) P cl) [] rfl rfl (by kernel_rfl) (by kernel_rfl) (by kernel_rfl) (by kernel_rfl) (by kernel_rfl) (fun _ _ _ h => h) (by rfl) (fun u hu => by obtain ⟨s1, s2, s3, s4, s5⟩ := hu; go_simp) hS ?_
              simp only [Act.put, List.setIfInBounds_toArray, List.set_cons_zero, List.set_cons_succ]
              refine wpAnyL_take 4 57 (.pointer (some ⟨N7, 0, none⟩)) [] rfl rfl (by kernel_rfl) (by kernel_rfl) (by kernel_rfl) (by kernel_rfl) (by kernel_rfl) (fun _ _ _ h => h) (by rfl) (fun u _ => by go_simp) hS ?_
              simp only [Act.put, List.setIfInBounds_toArray, List.set_cons_zero, List.set_cons_succ]
              refine wpAnyL_take 5 58 (.int .i64 (pn : Int)) [] rfl rfl (by kernel_rfl) (by kernel_rfl) (by kernel_rfl) (by kernel_rfl) (by kernel_rfl) (fun _ _ _ h => h) (by rfl) (fun u hu => by obtain ⟨s1, s2, s3, s4, s5⟩ := hu; go_simp) hS ?_
              simp only [Act.put, List.setIfInBounds_toArray, List.set_cons_zero, List.set_cons_succ]
              refine wpAnyL_take 6 59 (.pointer (some ⟨N7, 1, none⟩)) [] rfl rfl (by kernel_rfl) (by kernel_rfl) (by kernel_rfl) (by kernel_rfl) (by kernel_rfl) (fun _ _ _ h => h) (by rfl) (fun u _ => by go_simp) hS ?_
              simp only [Act.put, List.setIfInBounds_toArray, List.set_cons_zero, List.set_cons_succ]
              refine wpAnyL_take 7 60 (.string SP) [] rfl rfl (by kernel_rfl) (by kernel_rfl) (by kernel_rfl) (by kernel_rfl) (by kernel_rfl) (fun _ _ _ h => h) (by rfl) (fun u hu => by obtain ⟨s1, s2, s3, s4, s5⟩ := hu; go_simp) hS ?_
              simp only [Act.put, List.setIfInBounds_toArray, List.set_cons_zero, List.set_cons_succ]
              refine wpAnyL_take 8 61 (.int .i64 (sn : Int)) [] rfl rfl (by kernel_rfl) (by kernel_rfl) (by kernel_rfl) (by kernel_rfl) (by kernel_rfl) (fun _ _ _ h => h) (by rfl) (fun u _ => by go_simp) hS ?_
              simp only [Act.put, List.setIfInBounds_toArray, List.set_cons_zero, List.set_cons_succ]
              refine wpAnyL_take 9 62 (.string A1) [] rfl rfl (by kernel_rfl) (by kernel_rfl) (by kernel_rfl) (by kernel_rfl) (by kernel_rfl) (fun _ _ _ h => h) (by rfl) (fun u _ => by go_simp) hS ?_
              simp only [Act.put, List.setIfInBounds_toArray, List.set_cons_zero, List.set_cons_succ]
              refine wpAnyL_take 10 63 (.pointer (some ⟨M, 0, none⟩)) [] rfl rfl (by kernel_rfl) (by kernel_rfl) (by kernel_rfl) (by kernel_rfl) (by kernel_rfl) (fun _ _ _ h => h) (by rfl) (fun u _ => by go_simp) hS ?_
              simp only [Act.put, List.setIfInBounds_toArray, List.set_cons_zero, List.set_cons_succ]
              refine wpAnyL_take 11 64 (.pointer (some ⟨M, 0, none⟩)) [] rfl rfl (by kernel_rfl) (by kernel_rfl) (by kernel_rfl) (by kernel_rfl) (by kernel_rfl) (fun _ _ _ h => h) (by rfl) (fun u _ => by go_simp) hS ?_
              simp only [Act.put, List.setIfInBounds_toArray, List.set_cons_zero, List.set_cons_succ]
              refine wpAnyL_take 12 65 (.pointer (some ⟨M, 0, none⟩)) [] rfl rfl (by kernel_rfl) (by kernel_rfl) (by kernel_rfl) (by kernel_rfl) (by kernel_rfl) (fun _ _ _ h => h) (by rfl) (fun u _ => by go_simp) hS ?_
              simp only [Act.put, List.setIfInBounds_toArray, List.set_cons_zero, List.set_cons_succ]
              refine wpAnyL_take 13 66 (.slice (some ⟨gl, 0, none⟩) P cl) [] rfl rfl (by kernel_rfl) (by kernel_rfl) (by kernel_rfl) (by kernel_rfl) (by kernel_rfl) (fun _ _ _ h => h) (by rfl) (fun u hu => by obtain ⟨s1, s2, s3, s4, s5⟩ := hu; go_simp) hS ?_
              simp only [Act.put, List.setIfInBounds_toArray, List.set_cons_zero, List.set_cons_succ]
              refine wpAnyL_take 14 67 (.pointer (some ⟨N7, 0, none⟩)) [] rfl rfl (by kernel_rfl) (by kernel_rfl) (by kernel_rfl) (by kernel_rfl) (by kernel_rfl) (fun _ _ _ h => h) (by rfl) (fun u _ => by go_simp) hS ?_
              simp only [Act.put, List.setIfInBounds_toArray, List.set_cons_zero, List.set_cons_succ]
              refine wpAnyL_take 15 68 (.int .i64 (pn : Int)) [] rfl rfl (by kernel_rfl) (by kernel_rfl) (by kernel_rfl) (by kernel_rfl) (by kernel_rfl) (fun _ _ _ h => h) (by rfl) (fun u hu => by obtain ⟨s1, s2, s3, s4, s5⟩ := hu; go_simp) hS ?_
              simp only [Act.put, List.setIfInBounds_toArray, List.set_cons_zero, List.set_cons_succ]
              refine wpAnyL_take 16 69 (.pointer (some ⟨gl, pn, none⟩)) [] rfl rfl (by kernel_rfl) (by kernel_rfl) (by kernel_rfl) (by kernel_rfl) (by kernel_rfl) (fun _ _ _ h => h) (by rfl) (fun u _ => by go_simp) hS ?_
              simp only [Act.put, List.setIfInBounds_toArray, List.set_cons_zero, List.set_cons_succ]
              refine wpAnyL_take 17 70 (.string SL) [] rfl rfl (by kernel_rfl) (by kernel_rfl) (by kernel_rfl) (by kernel_rfl) (by kernel_rfl) (fun _ _ _ h => h) (by rfl) (fun u hu => by obtain ⟨s1, s2, s3, s4, s5⟩ := hu; go_simp) hS ?_
              simp only [Act.put, List.setIfInBounds_toArray, List.set_cons_zero, List.set_cons_succ]
              refine wpAnyL_take 18 71 (.int .i64 (sn : Int)) [] rfl rfl (by kernel_rfl) (by kernel_rfl) (by kernel_rfl) (by kernel_rfl) (by kernel_rfl) (fun _ _ _ h => h) (by rfl) (fun u _ => by go_simp) hS ?_
              simp only [Act.put, List.setIfInBounds_toArray, List.set_cons_zero, List.set_cons_succ]
              refine wpAnyL_take 19 72 (.string A2) [] rfl rfl (by kernel_rfl) (by kernel_rfl) (by kernel_rfl) (by kernel_rfl) (by kernel_rfl) (fun _ _ _ h => h) (by rfl) (fun u _ => by go_simp) hS ?_
              simp only [Act.put, List.setIfInBounds_toArray, List.set_cons_zero, List.set_cons_succ]
              refine wpAnyL_take 20 73 (.string (A1 ++ A2)) [] rfl rfl (by kernel_rfl) (by kernel_rfl) (by kernel_rfl) (by kernel_rfl) (by kernel_rfl) (fun _ _ _ h => h) (by rfl) (fun u _ => by go_simp) hS ?_
              simp only [Act.put, List.setIfInBounds_toArray, List.set_cons_zero, List.set_cons_succ]
              refine wpAnyL_take 21 74 (.pointer (some ⟨gl, pn, none⟩)) [] rfl rfl (by kernel_rfl) (by kernel_rfl) (by kernel_rfl) (by kernel_rfl) (by kernel_rfl) (fun _ _ _ h => h) (by rfl) (fun u _ => by go_simp) hS ?_
              simp only [Act.put, List.setIfInBounds_toArray, List.set_cons_zero, List.set_cons_succ]
              refine wpAnyL_one (i := 22) (by kernel_rfl) rfl (by rfl) fun K hK => ?_
              obtain ⟨s1, s2, s3, s4, s5⟩ := hS
              go_simp
              refine hK _ _ (fun h => absurd rfl h) ?_
              clear hK K
              refine wpAnyL_done (by kernel_rfl) ?_ _
              go_wp2
              go_roundw
              case rel => exact ⟨i + 1, by omega, by go_num, (unhide HNX).1.keep fun _ _ => rfl, (unhide HNX).2.1.drew, (unhide HNX).2.2⟩
              case measure => simp [intOf]; omega
            · have hkI : (i : Int) < (kn : Int) := by rw [unhide HKN]; omega
              have hgd : ks.getD i false = true := by rw [List.getD_eq_getElem?_getD, List.getElem?_eq_getElem hik, Option.getD_some, hkb]
              rw [hgd, if_pos rfl] at hsh
              have HSH := hide hsh
              clear hsh hgd
              go_wp2_with (first
                | (refine wpList_load_mid (by rfl) 95 (.tmp 23) (by rfl) g2 (i * 2) (by rfl) C.toList _ (unhide HR2) refWUnd rfl (by rw [Array.length_toList, (unhide HC1).1]; exact refWInfo) ?_; simp only [Act.put, List.setIfInBounds_toArray, List.set_cons_zero, List.set_cons_succ, Array.toArray_toList])
                | (refine wpList_alloc_row (by rfl) 95 (by rfl) (some 7) (by rfl) N7 (by exact (unhide HN7).symm) _ zRefW ?_; intro W6 HX6 HB6 HS6; simp only [Act.put, List.setIfInBounds_toArray, List.set_cons_zero, List.set_cons_succ])
                | (refine wpList_store_row (by rfl) 95 (.tmp 7) (.tmp 24) (by rfl) N7 C (by rfl) (by rfl) 95 _ (unhide HX6) (by rw [(unhide HC1).1]; exact refWInfo) (by rw [(unhide HC1).1]; rfl) (unhide HC1).2.1 ?_
                   have HX7 := hide (heapRow_same (unhide HX6) C)
                   have HB7 := hide (belowRow (unhide HB6) (Nat.le_refl N7) C)
                   generalize W6.setRow N7 C = W7 at *
                   obtain ⟨HS7, HNX, q0, q1, q2⟩ := unhide HGO W7 (unhide HX7) (unhide HB7)
                   obtain ⟨kg, ko, hkao, hkce⟩ := unhide HKC W7 (unhide HB7) hik
                   subst hkao
                   rw [hkb] at hkce
                   simp only [Act.put]))
              rw [show (Value.int .i64 1024) = .int .i64 (sn : Int) from by rw [show (1024 : Int) = (sn : Int) from by rw [unhide HSH]; rfl]]
              refine wp_region_last (fun u' => u'.cell? ⟨M, 0, none⟩ = some (.slice (some ⟨gl, 0, none⟩) P cl) ∧ u'.cell? ⟨N7, 0, none⟩ = some (.int .i64 (pn : Int)) ∧ u'.cell? ⟨N7, 1, none⟩ = some (.string SP) ∧ u'.cell? ⟨gl, pn, none⟩ = some (.string SL) ∧ u'.frozen? ⟨gl, pn, none⟩ = false) 22 (by kernel_rfl) (unhide HS7) fun hS => ?_
              refine wpAnyL_take 0 53 (.pointer (some ⟨M, 0, none⟩)) [] rfl rfl (by kernel_rfl) (by kernel_rfl) (by kernel_rfl) (by kernel_rfl) (by kernel_rfl) (fun _ _ _ h => h) (by rfl) (fun u _ => by go_simp) hS ?_
              simp only [Act.put, List.setIfInBounds_toArray, List.set_cons_zero, List.set_cons_succ]
              refine wpAnyL_take 1 54 (.pointer (some ⟨M, 0, none⟩)) [] rfl rfl (by kernel_rfl) (by kernel_rfl) (by kernel_rfl) (by kernel_rfl) (by kernel_rfl) (fun _ _ _ h => h) (by rfl) (fun u _ => by go_simp) hS ?_
              simp only [Act.put, List.setIfInBounds_toArray, List.set_cons_zero, List.set_cons_succ]
              refine wpAnyL_take 2 55 (.pointer (some ⟨M, 0, none⟩)) [] rfl rfl (by kernel_rfl) (by kernel_rfl) (by kernel_rfl) (by kernel_rfl) (by kernel_rfl) (fun _ _ _ h => h) (by rfl) (fun u _ => by go_simp) hS ?_
              simp only [Act.put, List.setIfInBounds_toArray, List.set_cons_zero, List.set_cons_succ]
              refine wpAnyL_take 3 56 (.slice (some ⟨gl, 0, none⟩) P cl) [] rfl rfl (by kernel_rfl) (by kernel_rfl) (by kernel_rfl) (by kernel_rfl) (by kernel_rfl) (fun _ _ _ h => h) (by rfl) (fun u hu => by obtain ⟨s1, s2, s3, s4, s5⟩ := hu; go_simp) hS ?_
              simp only [Act.put, List.setIfInBounds_toArray, List.set_cons_zero, List.set_cons_succ]
              refine wpAnyL_take 4 57 (.pointer (some ⟨N7, 0, none⟩)) [] rfl rfl (by kernel_rfl) (by kernel_rfl) (by kernel_rfl) (by kernel_rfl) (by kernel_rfl) (fun _ _ _ h => h) (by rfl) (fun u _ => by go_simp) hS ?_
              simp only [Act.put, List.setIfInBounds_toArray, List.set_cons_zero, List.set_cons_succ]
              refine wpAnyL_take 5 58 (.int .i64 (pn : Int)) [] rfl rfl (by kernel_rfl) (by kernel_rfl) (by kernel_rfl) (by kernel_rfl) (by kernel_rfl) (fun _ _ _ h => h) (by rfl) (fun u hu => by obtain ⟨s1, s2, s3, s4, s5⟩ := hu; go_simp) hS ?_
              simp only [Act.put, List.setIfInBounds_toArray, List.set_cons_zero, List.set_cons_succ]
              refine wpAnyL_take 6 59 (.pointer (some ⟨N7, 1, none⟩)) [] rfl rfl (by kernel_rfl) (by kernel_rfl) (by kernel_rfl) (by kernel_rfl) (by kernel_rfl) (fun _ _ _ h => h) (by rfl) (fun u _ => by go_simp) hS ?_
              simp only [Act.put, List.setIfInBounds_toArray, List.set_cons_zero, List.set_cons_succ]
              refine wpAnyL_take 7 60 (.string SP) [] rfl rfl (by kernel_rfl) (by kernel_rfl) (by kernel_rfl) (by kernel_rfl) (by kernel_rfl) (fun _ _ _ h => h) (by rfl) (fun u hu => by obtain ⟨s1, s2, s3, s4, s5⟩ := hu; go_simp) hS ?_
              simp only [Act.put, List.setIfInBounds_toArray, List.set_cons_zero, List.set_cons_succ]
              refine wpAnyL_take 8 61 (.int .i64 (sn : Int)) [] rfl rfl (by kernel_rfl) (by kernel_rfl) (by kernel_rfl) (by kernel_rfl) (by kernel_rfl) (fun _ _ _ h => h) (by rfl) (fun u _ => by go_simp) hS ?_
              simp only [Act.put, List.setIfInBounds_toArray, List.set_cons_zero, List.set_cons_succ]
              refine wpAnyL_take 9 62 (.string A1) [] rfl rfl (by kernel_rfl) (by kernel_rfl) (by kernel_rfl) (by kernel_rfl) (by kernel_rfl) (fun _ _ _ h => h) (by rfl) (fun u _ => by go_simp) hS ?_
              simp only [Act.put, List.setIfInBounds_toArray, List.set_cons_zero, List.set_cons_succ]
              refine wpAnyL_take 10 63 (.pointer (some ⟨M, 0, none⟩)) [] rfl rfl (by kernel_rfl) (by kernel_rfl) (by kernel_rfl) (by kernel_rfl) (by kernel_rfl) (fun _ _ _ h => h) (by rfl) (fun u _ => by go_simp) hS ?_
              simp only [Act.put, List.setIfInBounds_toArray, List.set_cons_zero, List.set_cons_succ]
              refine wpAnyL_take 11 64 (.pointer (some ⟨M, 0, none⟩)) [] rfl rfl (by kernel_rfl) (by kernel_rfl) (by kernel_rfl) (by kernel_rfl) (by kernel_rfl) (fun _ _ _ h => h) (by rfl) (fun u _ => by go_simp) hS ?_
              simp only [Act.put, List.setIfInBounds_toArray, List.set_cons_zero, List.set_cons_succ]
              refine wpAnyL_take 12 65 (.pointer (some ⟨M, 0, none⟩)) [] rfl rfl (by kernel_rfl) (by kernel_rfl) (by kernel_rfl) (by kernel_rfl) (by kernel_rfl) (fun _ _ _ h => h) (by rfl) (fun u _ => by go_simp) hS ?_
              simp only [Act.put, List.setIfInBounds_toArray, List.set_cons_zero, List.set_cons_succ]
              refine wpAnyL_take 13 66 (.slice (some ⟨gl, 0, none⟩) P cl) [] rfl rfl (by kernel_rfl) (by kernel_rfl) (by kernel_rfl) (by kernel_rfl) (by kernel_rfl) (fun _ _ _ h => h) (by rfl) (fun u hu => by obtain ⟨s1, s2, s3, s4, s5⟩ := hu; go_simp) hS ?_
              simp only [Act.put, List.setIfInBounds_toArray, List.set_cons_zero, List.set_cons_succ]
              refine wpAnyL_take 14 67 (.pointer (some ⟨N7, 0, none⟩)) [] rfl rfl (by kernel_rfl) (by kernel_rfl) (by kernel_rfl) (by kernel_rfl) (by kernel_rfl) (fun _ _ _ h => h) (by rfl) (fun u _ => by go_simp) hS ?_
              simp only [Act.put, List.setIfInBounds_toArray, List.set_cons_zero, List.set_cons_succ]
              refine wpAnyL_take 15 68 (.int .i64 (pn : Int)) [] rfl rfl (by kernel_rfl) (by kernel_rfl) (by kernel_rfl) (by kernel_rfl) (by kernel_rfl) (fun _ _ _ h => h) (by rfl) (fun u hu => by obtain ⟨s1, s2, s3, s4, s5⟩ := hu; go_simp) hS ?_
              simp only [Act.put, List.setIfInBounds_toArray, List.set_cons_zero, List.set_cons_succ]
              refine wpAnyL_take 16 69 (.pointer (some ⟨gl, pn, none⟩)) [] rfl rfl (by kernel_rfl) (by kernel_rfl) (by kernel_rfl) (by kernel_rfl) (by kernel_rfl) (fun _ _ _ h => h) (by rfl) (fun u _ => by go_simp) hS ?_
              simp only [Act.put, List.setIfInBounds_toArray, List.set_cons_zero, List.set_cons_succ]
              refine wpAnyL_take 17 70 (.string SL) [] rfl rfl (by kernel_rfl) (by kernel_rfl) (by kernel_rfl) (by kernel_rfl) (by kernel_rfl) (fun _ _ _ h => h) (by rfl) (fun u hu => by obtain ⟨s1, s2, s3, s4, s5⟩ := hu; go_simp) hS ?_
              simp only [Act.put, List.setIfInBounds_toArray, List.set_cons_zero, List.set_cons_succ]
              refine wpAnyL_take 18 71 (.int .i64 (sn : Int)) [] rfl rfl (by kernel_rfl) (by kernel_rfl) (by kernel_rfl) (by kernel_rfl) (by kernel_rfl) (fun _ _ _ h => h) (by rfl) (fun u _ => by go_simp) hS ?_
              simp only [Act.put, List.setIfInBounds_toArray, List.set_cons_zero, List.set_cons_succ]
              refine wpAnyL_take 19 72 (.string A2) [] rfl rfl (by kernel_rfl) (by kernel_rfl) (by kernel_rfl) (by kernel_rfl) (by kernel_rfl) (fun _ _ _ h => h) (by rfl) (fun u _ => by go_simp) hS ?_
              simp only [Act.put, List.setIfInBounds_toArray, List.set_cons_zero, List.set_cons_succ]
              refine wpAnyL_take 20 73 (.string (A1 ++ A2)) [] rfl rfl (by kernel_rfl) (by kernel_rfl) (by kernel_rfl) (by kernel_rfl) (by kernel_rfl) (fun _ _ _ h => h) (by rfl) (fun u _ => by go_simp) hS ?_
              simp only [Act.put, List.setIfInBounds_toArray, List.set_cons_zero, List.set_cons_succ]
              refine wpAnyL_take 21 74 (.pointer (some ⟨gl, pn, none⟩)) [] rfl rfl (by kernel_rfl) (by kernel_rfl) (by kernel_rfl) (by kernel_rfl) (by kernel_rfl) (fun _ _ _ h => h) (by rfl) (fun u _ => by go_simp) hS ?_
              simp only [Act.put, List.setIfInBounds_toArray, List.set_cons_zero, List.set_cons_succ]
              refine wpAnyL_one (i := 22) (by kernel_rfl) rfl (by rfl) fun K hK => ?_
              obtain ⟨s1, s2, s3, s4, s5⟩ := hS
              go_simp
              refine hK _ _ (fun h => absurd rfl h) ?_
              clear hK K
              refine wpAnyL_done (by kernel_rfl) ?_ _
              go_wp2
              go_roundw
              case rel => exact ⟨i + 1, by omega, by go_num, (unhide HNX).1.keep fun _ _ => rfl, (unhide HNX).2.1.drew, (unhide HNX).2.2⟩
              case measure => simp [intOf]; omega
          · have hkO : ¬ (i : Int) < (kn : Int) := by rw [unhide HKN]; omega
            have hgd : ks.getD i false = false := by rw [List.getD_eq_getElem?_getD, List.getElem?_eq_none (by omega)]; rfl
            rw [hgd, if_neg (by decide)] at hsh
            have HSH := hide hsh
            clear hsh hgd
            go_wp2_with (first
              | (refine wpList_load_mid (by rfl) 95 (.tmp 23) (by rfl) g2 (i * 2) (by rfl) C.toList _ (unhide HR2) refWUnd rfl (by rw [Array.length_toList, (unhide HC1).1]; exact refWInfo) ?_; simp only [Act.put, List.setIfInBounds_toArray, List.set_cons_zero, List.set_cons_succ, Array.toArray_toList])
              | (refine wpList_alloc_row (by rfl) 95 (by rfl) (some 7) (by rfl) N7 (by exact (unhide HN7).symm) _ zRefW ?_; intro W6 HX6 HB6 HS6; simp only [Act.put, List.setIfInBounds_toArray, List.set_cons_zero, List.set_cons_succ])
              | (refine wpList_store_row (by rfl) 95 (.tmp 7) (.tmp 24) (by rfl) N7 C (by rfl) (by rfl) 95 _ (unhide HX6) (by rw [(unhide HC1).1]; exact refWInfo) (by rw [(unhide HC1).1]; rfl) (unhide HC1).2.1 ?_
                 have HX7 := hide (heapRow_same (unhide HX6) C)
                 have HB7 := hide (belowRow (unhide HB6) (Nat.le_refl N7) C)
                 generalize W6.setRow N7 C = W7 at *
                 obtain ⟨HS7, HNX, q0, q1, q2⟩ := unhide HGO W7 (unhide HX7) (unhide HB7)
                 simp only [Act.put]))
            rw [show (Value.int .i64 0) = .int .i64 (sn : Int) from by rw [show (0 : Int) = (sn : Int) from by rw [unhide HSH]; rfl]]
            refine wp_region_last (fun u' => u'.cell? ⟨M, 0, none⟩ = some (.slice (some ⟨gl, 0, none⟩) P cl) ∧ u'.cell? ⟨N7, 0, none⟩ = some (.int .i64 (pn : Int)) ∧ u'.cell? ⟨N7, 1, none⟩ = some (.string SP) ∧ u'.cell? ⟨gl, pn, none⟩ = some (.string SL) ∧ u'.frozen? ⟨gl, pn, none⟩ = false) 22 (by kernel_rfl) (unhide HS7) fun hS => ?_
            refine wpAnyL_take 0 53 (.pointer (some ⟨M, 0, none⟩)) [] rfl rfl (by kernel_rfl) (by kernel_rfl) (by kernel_rfl) (by kernel_rfl) (by kernel_rfl) (fun _ _ _ h => h) (by rfl) (fun u _ => by go_simp) hS ?_
            simp only [Act.put, List.setIfInBounds_toArray, List.set_cons_zero, List.set_cons_succ]
            refine wpAnyL_take 1 54 (.pointer (some ⟨M, 0, none⟩)) [] rfl rfl (by kernel_rfl) (by kernel_rfl) (by kernel_rfl) (by kernel_rfl) (by kernel_rfl) (fun _ _ _ h => h) (by rfl) (fun u _ => by go_simp) hS ?_
            simp only [Act.put, List.setIfInBounds_toArray, List.set_cons_zero, List.set_cons_succ]
            refine wpAnyL_take 2 55 (.pointer (some ⟨M, 0, none⟩)) [] rfl rfl (by kernel_rfl) (by kernel_rfl) (by kernel_rfl) (by kernel_rfl) (by kernel_rfl) (fun _ _ _ h => h) (by rfl) (fun u _ => by go_simp) hS ?_
            simp only [Act.put, List.setIfInBounds_toArray, List.set_cons_zero, List.set_cons_succ]
            refine wpAnyL_take 3 56 (.slice (some ⟨gl, 0, none⟩) P cl) [] rfl rfl (by kernel_rfl) (by kernel_rfl) (by kernel_rfl) (by kernel_rfl) (by kernel_rfl) (fun _ _ _ h => h) (by rfl) (fun u hu => by obtain ⟨s1, s2, s3, s4, s5⟩ := hu; go_simp) hS ?_
            simp only [Act.put, List.setIfInBounds_toArray, List.set_cons_zero, List.set_cons_succ]
            refine wpAnyL_take 4 57 (.pointer (some ⟨N7, 0, none⟩)) [] rfl rfl (by kernel_rfl) (by kernel_rfl) (by kernel_rfl) (by kernel_rfl) (by kernel_rfl) (fun _ _ _ h => h) (by rfl) (fun u _ => by go_simp) hS ?_
            simp only [Act.put, List.setIfInBounds_toArray, List.set_cons_zero, List.set_cons_succ]
            refine wpAnyL_take 5 58 (.int .i64 (pn : Int)) [] rfl rfl (by kernel_rfl) (by kernel_rfl) (by kernel_rfl) (by kernel_rfl) (by kernel_rfl) (fun _ _ _ h => h) (by rfl) (fun u hu => by obtain ⟨s1, s2, s3, s4, s5⟩ := hu; go_simp) hS ?_
            simp only [Act.put, List.setIfInBounds_toArray, List.set_cons_zero, List.set_cons_succ]
            refine wpAnyL_take 6 59 (.pointer (some ⟨N7, 1, none⟩)) [] rfl rfl (by kernel_rfl) (by kernel_rfl) (by kernel_rfl) (by kernel_rfl) (by kernel_rfl) (fun _ _ _ h => h) (by rfl) (fun u _ => by go_simp) hS ?_
            simp only [Act.put, List.setIfInBounds_toArray, List.set_cons_zero, List.set_cons_succ]
            refine wpAnyL_take 7 60 (.string SP) [] rfl rfl (by kernel_rfl) (by kernel_rfl) (by kernel_rfl) (by kernel_rfl) (by kernel_rfl) (fun _ _ _ h => h) (by rfl) (fun u hu => by obtain ⟨s1, s2, s3, s4, s5⟩ := hu; go_simp) hS ?_
            simp only [Act.put, List.setIfInBounds_toArray, List.set_cons_zero, List.set_cons_succ]
            refine wpAnyL_take 8 61 (.int .i64 (sn : Int)) [] rfl rfl (by kernel_rfl) (by kernel_rfl) (by kernel_rfl) (by kernel_rfl) (by kernel_rfl) (fun _ _ _ h => h) (by rfl) (fun u _ => by go_simp) hS ?_
            simp only [Act.put, List.setIfInBounds_toArray, List.set_cons_zero, List.set_cons_succ]
            refine wpAnyL_take 9 62 (.string A1) [] rfl rfl (by kernel_rfl) (by kernel_rfl) (by kernel_rfl) (by kernel_rfl) (by kernel_rfl) (fun _ _ _ h => h) (by rfl) (fun u _ => by go_simp) hS ?_
            simp only [Act.put, List.setIfInBounds_toArray, List.set_cons_zero, List.set_cons_succ]
            refine wpAnyL_take 10 63 (.pointer (some ⟨M, 0, none⟩)) [] rfl rfl (by kernel_rfl) (by kernel_rfl) (by kernel_rfl) (by kernel_rfl) (by kernel_rfl) (fun _ _ _ h => h) (by rfl) (fun u _ => by go_simp) hS ?_
            simp only [Act.put, List.setIfInBounds_toArray, List.set_cons_zero, List.set_cons_succ]
            refine wpAnyL_take 11 64 (.pointer (some ⟨M, 0, none⟩)) [] rfl rfl (by kernel_rfl) (by kernel_rfl) (by kernel_rfl) (by kernel_rfl) (by kernel_rfl) (fun _ _ _ h => h) (by rfl) (fun u _ => by go_simp) hS ?_
            simp only [Act.put, List.setIfInBounds_toArray, List.set_cons_zero, List.set_cons_succ]
            refine wpAnyL_take 12 65 (.pointer (some ⟨M, 0, none⟩)) [] rfl rfl (by kernel_rfl) (by kernel_rfl) (by kernel_rfl) (by kernel_rfl) (by kernel_rfl) (fun _ _ _ h => h) (by rfl) (fun u _ => by go_simp) hS ?_
            simp only [Act.put, List.setIfInBounds_toArray, List.set_cons_zero, List.set_cons_succ]
            refine wpAnyL_take 13 66 (.slice (some ⟨gl, 0, none⟩) P cl) [] rfl rfl (by kernel_rfl) (by kernel_rfl) (by kernel_rfl) (by kernel_rfl) (by kernel_rfl) (fun _ _ _ h => h) (by rfl) (fun u hu => by obtain ⟨s1, s2, s3, s4, s5⟩ := hu; go_simp) hS ?_
            simp only [Act.put, List.setIfInBounds_toArray, List.set_cons_zero, List.set_cons_succ]
            refine wpAnyL_take 14 67 (.pointer (some ⟨N7, 0, none⟩)) [] rfl rfl (by kernel_rfl) (by kernel_rfl) (by kernel_rfl) (by kernel_rfl) (by kernel_rfl) (fun _ _ _ h => h) (by rfl) (fun u _ => by go_simp) hS ?_
            simp only [Act.put, List.setIfInBounds_toArray, List.set_cons_zero, List.set_cons_succ]
            refine wpAnyL_take 15 68 (.int .i64 (pn : Int)) [] rfl rfl (by kernel_rfl) (by kernel_rfl) (by kernel_rfl) (by kernel_rfl) (by kernel_rfl) (fun _ _ _ h => h) (by rfl) (fun u hu => by obtain ⟨s1, s2, s3, s4, s5⟩ := hu; go_simp) hS ?_
            simp only [Act.put, List.setIfInBounds_toArray, List.set_cons_zero, List.set_cons_succ]
            refine wpAnyL_take 16 69 (.pointer (some ⟨gl, pn, none⟩)) [] rfl rfl (by kernel_rfl) (by kernel_rfl) (by kernel_rfl) (by kernel_rfl) (by kernel_rfl) (fun _ _ _ h => h) (by rfl) (fun u _ => by go_simp) hS ?_
            simp only [Act.put, List.setIfInBounds_toArray, List.set_cons_zero, List.set_cons_succ]
            refine wpAnyL_take 17 70 (.string SL) [] rfl rfl (by kernel_rfl) (by kernel_rfl) (by kernel_rfl) (by kernel_rfl) (by kernel_rfl) (fun _ _ _ h => h) (by rfl) (fun u hu => by obtain ⟨s1, s2, s3, s4, s5⟩ := hu; go_simp) hS ?_
            simp only [Act.put, List.setIfInBounds_toArray, List.set_cons_zero, List.set_cons_succ]
            refine wpAnyL_take 18 71 (.int .i64 (sn : Int)) [] rfl rfl (by kernel_rfl) (by kernel_rfl) (by kernel_rfl) (by kernel_rfl) (by kernel_rfl) (fun _ _ _ h => h) (by rfl) (fun u _ => by go_simp) hS ?_
            simp only [Act.put, List.setIfInBounds_toArray, List.set_cons_zero, List.set_cons_succ]
            refine wpAnyL_take 19 72 (.string A2) [] rfl rfl (by kernel_rfl) (by kernel_rfl) (by kernel_rfl) (by kernel_rfl) (by kernel_rfl) (fun _ _ _ h => h) (by rfl) (fun u _ => by go_simp) hS ?_
            simp only [Act.put, List.setIfInBounds_toArray, List.set_cons_zero, List.set_cons_succ]
            refine wpAnyL_take 20 73 (.string (A1 ++ A2)) [] rfl rfl (by kernel_rfl) (by kernel_rfl) (by kernel_rfl) (by kernel_rfl) (by kernel_rfl) (fun _ _ _ h => h) (by rfl) (fun u _ => by go_simp) hS ?_
            simp only [Act.put, List.setIfInBounds_toArray, List.set_cons_zero, List.set_cons_succ]
            refine wpAnyL_take 21 74 (.pointer (some ⟨gl, pn, none⟩)) [] rfl rfl (by kernel_rfl) (by kernel_rfl) (by kernel_rfl) (by kernel_rfl) (by kernel_rfl) (fun _ _ _ h => h) (by rfl) (fun u _ => by go_simp) hS ?_
            simp only [Act.put, List.setIfInBounds_toArray, List.set_cons_zero, List.set_cons_succ]
            refine wpAnyL_one (i := 22) (by kernel_rfl) rfl (by rfl) fun K hK => ?_
            obtain ⟨s1, s2, s3, s4, s5⟩ := hS
            go_simp
            refine hK _ _ (fun h => absurd rfl h) ?_
            clear hK K
            refine wpAnyL_done (by kernel_rfl) ?_ _
            go_wp2
            go_roundw
            case rel => exact ⟨i + 1, by omega, by go_num, (unhide HNX).1.keep fun _ _ => rfl, (unhide HNX).2.1.drew, (unhide HNX).2.2⟩
            case measure => simp [intOf]; omega
      · have HSH : Hid (sn = 1024) := HSN
        go_wp2_with (first
          | (refine wpList_load_mid (by rfl) 95 (.tmp 23) (by rfl) g2 (i * 2) (by rfl) C.toList _ (unhide HR2) refWUnd rfl (by rw [Array.length_toList, (unhide HC1).1]; exact refWInfo) ?_; simp only [Act.put, List.setIfInBounds_toArray, List.set_cons_zero, List.set_cons_succ, Array.toArray_toList])
          | (refine wpList_alloc_row (by rfl) 95 (by rfl) (some 7) (by rfl) N7 (by exact (unhide HN7).symm) _ zRefW ?_; intro W6 HX6 HB6 HS6; simp only [Act.put, List.setIfInBounds_toArray, List.set_cons_zero, List.set_cons_succ])
          | (refine wpList_store_row (by rfl) 95 (.tmp 7) (.tmp 24) (by rfl) N7 C (by rfl) (by rfl) 95 _ (unhide HX6) (by rw [(unhide HC1).1]; exact refWInfo) (by rw [(unhide HC1).1]; rfl) (unhide HC1).2.1 ?_
             have HX7 := hide (heapRow_same (unhide HX6) C)
             have HB7 := hide (belowRow (unhide HB6) (Nat.le_refl N7) C)
             generalize W6.setRow N7 C = W7 at *
             obtain ⟨HS7, HNX, q0, q1, q2⟩ := unhide HGO W7 (unhide HX7) (unhide HB7)
             have HKW := unhide HKC W7 (unhide HB7)
             simp only [Act.put]))
        rw [show (Value.int .i64 1024) = .int .i64 (sn : Int) from by rw [show (1024 : Int) = (sn : Int) from by rw [unhide HSH]; rfl]]
        refine wp_region_last (fun u' => u'.cell? ⟨M, 0, none⟩ = some (.slice (some ⟨gl, 0, none⟩) P cl) ∧ u'.cell? ⟨N7, 0, none⟩ = some (.int .i64 (pn : Int)) ∧ u'.cell? ⟨N7, 1, none⟩ = some (.string SP) ∧ u'.cell? ⟨gl, pn, none⟩ = some (.string SL) ∧ u'.frozen? ⟨gl, pn, none⟩ = false) 22 (by kernel_rfl) (unhide HS7) fun hS => ?_
        refine wpAnyL_take 0 53 (.pointer (some ⟨M, 0, none⟩)) [] rfl rfl (by kernel_rfl) (by kernel_rfl) (by kernel_rfl) (by kernel_rfl) (by kernel_rfl) (fun _ _ _ h => h) (by rfl) (fun u _ => by go_simp) hS ?_
        simp only [Act.put, List.setIfInBounds_toArray, List.set_cons_zero, List.set_cons_succ]
        refine wpAnyL_take 1 54 (.pointer (some ⟨M, 0, none⟩)) [] rfl rfl (by kernel_rfl) (by kernel_rfl) (by kernel_rfl) (by kernel_rfl) (by kernel_rfl) (fun _ _ _ h => h) (by rfl) (fun u _ => by go_simp) hS ?_
        simp only [Act.put, List.setIfInBounds_toArray, List.set_cons_zero, List.set_cons_succ]
        refine wpAnyL_take 2 55 (.pointer (some ⟨M, 0, none⟩)) [] rfl rfl (by kernel_rfl) (by kernel_rfl) (by kernel_rfl) (by kernel_rfl) (by kernel_rfl) (fun _ _ _ h => h) (by rfl) (fun u _ => by go_simp) hS ?_
        simp only [Act.put, List.setIfInBounds_toArray, List.set_cons_zero, List.set_cons_succ]
        refine wpAnyL_take 3 56 (.slice (some ⟨gl, 0, none⟩) P cl) [] rfl rfl (by kernel_rfl) (by kernel_rfl) (by kernel_rfl) (by kernel_rfl) (by kernel_rfl) (fun _ _ _ h => h) (by rfl) (fun u hu => by obtain ⟨s1, s2, s3, s4, s5⟩ := hu; go_simp) hS ?_
        simp only [Act.put, List.setIfInBounds_toArray, List.set_cons_zero, List.set_cons_succ]
        refine wpAnyL_take 4 57 (.pointer (some ⟨N7, 0, none⟩)) [] rfl rfl (by kernel_rfl) (by kernel_rfl) (by kernel_rfl) (by kernel_rfl) (by kernel_rfl) (fun _ _ _ h => h) (by rfl) (fun u _ => by go_simp) hS ?_
        simp only [Act.put, List.setIfInBounds_toArray, List.set_cons_zero, List.set_cons_succ]
        refine wpAnyL_take 5 58 (.int .i64 (pn : Int)) [] rfl rfl (by kernel_rfl) (by kernel_rfl) (by kernel_rfl) (by kernel_rfl) (by kernel_rfl) (fun _ _ _ h => h) (by rfl) (fun u hu => by obtain ⟨s1, s2, s3, s4, s5⟩ := hu; go_simp) hS ?_
        simp only [Act.put, List.setIfInBounds_toArray, List.set_cons_zero, List.set_cons_succ]
        refine wpAnyL_take 6 59 (.pointer (some ⟨N7, 1, none⟩)) [] rfl rfl (by kernel_rfl) (by kernel_rfl) (by kernel_rfl) (by kernel_rfl) (by kernel_rfl) (fun _ _ _ h => h) (by rfl) (fun u _ => by go_simp) hS ?_
        simp only [Act.put, List.setIfInBounds_toArray, List.set_cons_zero, List.set_cons_succ]
        refine wpAnyL_take 7 60 (.string SP) [] rfl rfl (by kernel_rfl) (by kernel_rfl) (by kernel_rfl) (by kernel_rfl) (by kernel_rfl) (fun _ _ _ h => h) (by rfl) (fun u hu => by obtain ⟨s1, s2, s3, s4, s5⟩ := hu; go_simp) hS ?_
        simp only [Act.put, List.setIfInBounds_toArray, List.set_cons_zero, List.set_cons_succ]
        refine wpAnyL_take 8 61 (.int .i64 (sn : Int)) [] rfl rfl (by kernel_rfl) (by kernel_rfl) (by kernel_rfl) (by kernel_rfl) (by kernel_rfl) (fun _ _ _ h => h) (by rfl) (fun u _ => by go_simp) hS ?_
        simp only [Act.put, List.setIfInBounds_toArray, List.set_cons_zero, List.set_cons_succ]
        refine wpAnyL_take 9 62 (.string A1) [] rfl rfl (by kernel_rfl) (by kernel_rfl) (by kernel_rfl) (by kernel_rfl) (by kernel_rfl) (fun _ _ _ h => h) (by rfl) (fun u _ => by go_simp) hS ?_
        simp only [Act.put, List.setIfInBounds_toArray, List.set_cons_zero, List.set_cons_succ]
        refine wpAnyL_take 10 63 (.pointer (some ⟨M, 0, none⟩)) [] rfl rfl (by kernel_rfl) (by kernel_rfl) (by kernel_rfl) (by kernel_rfl) (by kernel_rfl) (fun _ _ _ h => h) (by rfl) (fun u _ => by go_simp) hS ?_
        simp only [Act.put, List.setIfInBounds_toArray, List.set_cons_zero, List.set_cons_succ]
        refine wpAnyL_take 11 64 (.pointer (some ⟨M, 0, none⟩)) [] rfl rfl (by kernel_rfl) (by kernel_rfl) (by kernel_rfl) (by kernel_rfl) (by kernel_rfl) (fun _ _ _ h => h) (by rfl) (fun u _ => by go_simp) hS ?_
        simp only [Act.put, List.setIfInBounds_toArray, List.set_cons_zero, List.set_cons_succ]
        refine wpAnyL_take 12 65 (.pointer (some ⟨M, 0, none⟩)) [] rfl rfl (by kernel_rfl) (by kernel_rfl) (by kernel_rfl) (by kernel_rfl) (by kernel_rfl) (fun _ _ _ h => h) (by rfl) (fun u _ => by go_simp) hS ?_
        simp only [Act.put, List.setIfInBounds_toArray, List.set_cons_zero, List.set_cons_succ]
        refine wpAnyL_take 13 66 (.slice (some ⟨gl, 0, none⟩) P cl) [] rfl rfl (by kernel_rfl) (by kernel_rfl) (by kernel_rfl) (by kernel_rfl) (by kernel_rfl) (fun _ _ _ h => h) (by rfl) (fun u hu => by obtain ⟨s1, s2, s3, s4, s5⟩ := hu; go_simp) hS ?_
        simp only [Act.put, List.setIfInBounds_toArray, List.set_cons_zero, List.set_cons_succ]
        refine wpAnyL_take 14 67 (.pointer (some ⟨N7, 0, none⟩)) [] rfl rfl (by kernel_rfl) (by kernel_rfl) (by kernel_rfl) (by kernel_rfl) (by kernel_rfl) (fun _ _ _ h => h) (by rfl) (fun u _ => by go_simp) hS ?_
        simp only [Act.put, List.setIfInBounds_toArray, List.set_cons_zero, List.set_cons_succ]
        refine wpAnyL_take 15 68 (.int .i64 (pn : Int)) [] rfl rfl (by kernel_rfl) (by kernel_rfl) (by kernel_rfl) (by kernel_rfl) (by kernel_rfl) (fun _ _ _ h => h) (by rfl) (fun u hu => by obtain ⟨s1, s2, s3, s4, s5⟩ := hu; go_simp) hS ?_
        simp only [Act.put, List.setIfInBounds_toArray, List.set_cons_zero, List.set_cons_succ]
        refine wpAnyL_take 16 69 (.pointer (some ⟨gl, pn, none⟩)) [] rfl rfl (by kernel_rfl) (by kernel_rfl) (by kernel_rfl) (by kernel_rfl) (by kernel_rfl) (fun _ _ _ h => h) (by rfl) (fun u _ => by go_simp) hS ?_
        simp only [Act.put, List.setIfInBounds_toArray, List.set_cons_zero, List.set_cons_succ]
        refine wpAnyL_take 17 70 (.string SL) [] rfl rfl (by kernel_rfl) (by kernel_rfl) (by kernel_rfl) (by kernel_rfl) (by kernel_rfl) (fun _ _ _ h => h) (by rfl) (fun u hu => by obtain ⟨s1, s2, s3, s4, s5⟩ := hu; go_simp) hS ?_
        simp only [Act.put, List.setIfInBounds_toArray, List.set_cons_zero, List.set_cons_succ]
        refine wpAnyL_take 18 71 (.int .i64 (sn : Int)) [] rfl rfl (by kernel_rfl) (by kernel_rfl) (by kernel_rfl) (by kernel_rfl) (by kernel_rfl) (fun _ _ _ h => h) (by rfl) (fun u _ => by go_simp) hS ?_
        simp only [Act.put, List.setIfInBounds_toArray, List.set_cons_zero, List.set_cons_succ]
        refine wpAnyL_take 19 72 (.string A2) [] rfl rfl (by kernel_rfl) (by kernel_rfl) (by kernel_rfl) (by kernel_rfl) (by kernel_rfl) (fun _ _ _ h => h) (by rfl) (fun u _ => by go_simp) hS ?_
        simp only [Act.put, List.setIfInBounds_toArray, List.set_cons_zero, List.set_cons_succ]
        refine wpAnyL_take 20 73 (.string (A1 ++ A2)) [] rfl rfl (by kernel_rfl) (by kernel_rfl) (by kernel_rfl) (by kernel_rfl) (by kernel_rfl) (fun _ _ _ h => h) (by rfl) (fun u _ => by go_simp) hS ?_
        simp only [Act.put, List.setIfInBounds_toArray, List.set_cons_zero, List.set_cons_succ]
        refine wpAnyL_take 21 74 (.pointer (some ⟨gl, pn, none⟩)) [] rfl rfl (by kernel_rfl) (by kernel_rfl) (by kernel_rfl) (by kernel_rfl) (by kernel_rfl) (fun _ _ _ h => h) (by rfl) (fun u _ => by go_simp) hS ?_
        simp only [Act.put, List.setIfInBounds_toArray, List.set_cons_zero, List.set_cons_succ]
        refine wpAnyL_one (i := 22) (by kernel_rfl) rfl (by rfl) fun K hK => ?_
        obtain ⟨s1, s2, s3, s4, s5⟩ := hS
        go_simp
        refine hK _ _ (fun h => absurd rfl h) ?_
        clear hK K
        refine wpAnyL_done (by kernel_rfl) ?_ _
        go_wp2
        go_roundw
        case rel => exact ⟨i + 1, by omega, by go_num, (unhide HNX).1.keep fun _ _ => rfl, (unhide HNX).2.1.drew, (unhide HNX).2.2⟩
        case measure => simp [intOf]; omega
    · have hii : q = i := by omega
      subst hii
      obtain ⟨hR, hU, hX⟩ := unhide HI
      have c1 := hR.c1
      have z1 := hR.fz 1
      clear hR hU hX
      go_wp2
      go_returns
      obtain ⟨hR, hU, hX⟩ := unhide HI
      rw [unhide HQ] at hR
      exact ⟨rfl, hR.landed, (hU.mono (fun x hx => .inl (by simpa [Value.ownBlock] using hx))).setCell (.inl (by simp)) _⟩
end
end Go.Proofs.Ytfdibmbffmgikaa
