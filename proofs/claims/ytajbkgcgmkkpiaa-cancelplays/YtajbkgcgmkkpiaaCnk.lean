/- Tokens: leave: one taken out of the list of the one above. -/
import Derived.Test.YtajbkgcgmkkpiaaCnj
namespace Go.Proofs.Ytajbkgcgmkkpiaa.C
open Go.RowKit Go.Lib Go.MuLone Go.Conc
section
variable {B : Nat} {W W' : World} {G : Geo} {Z : Nat → Dy} {m n tb kb lb ch up : Nat}
theorem kLeaveNone (h : Fk B W G Z m n) {i : Nat} (hi : i < n) (ha : (Z i).abv = 0) :
    Calls Try.prog 53 #[.pointer (some ⟨G.kb i, 0, none⟩)] W fun e w' => e = .returned (.tuple #[]) ∧ w' = W := by
  have h6 : W.cell? ⟨G.kb i, 6, none⟩ = some (.pointer none) := by
    have := h.cell hi (j := 6) rfl
    rw [this]
    show some (abP G (Z i).abv) = _
    rw [ha]
    rfl
  clear h
  go_enter Try.func53, Try.ntmps53
  go_wp2
  refine bodyPost_ret (results_none rfl _ _ _) rfl ?_
  exact ⟨rfl, rfl⟩
set_option maxRecDepth 100000 in
theorem leave_walk (ki kp kl g cap l pl o : Nat) (z : Value) (hi6 : W.cell? ⟨ki, 6, none⟩ = some (.pointer (some ⟨kp, 0, none⟩))) (hi8 : W.cell? ⟨ki, 8, none⟩ = some (.int .i64 pl)) (hp7 : W.cell? ⟨kp, 7, none⟩ = some (.slice (some ⟨g, 0, none⟩) (l + 1) cap))
    (hgl : W.cell? ⟨g, l, none⟩ = some (.pointer (some ⟨kl, 0, none⟩))) (hgp : W.cell? ⟨g, pl, none⟩ = some z) (hl8 : W.cell? ⟨kl, 8, none⟩ = some (.int .i64 o)) (hpl : pl < l + 1) (hcap : l + 1 ≤ cap) (hsm : l < 6000000000000)
    (n1 : ¬ g = ki) (n2 : ¬ g = kp) (n3 : ¬ g = kl) (n4 : ¬ kl = kp) (fg : ∀ j, W.frozen? ⟨g, j, none⟩ = false) (fl : ∀ j, W.frozen? ⟨kl, j, none⟩ = false) (fp : ∀ j, W.frozen? ⟨kp, j, none⟩ = false) :
    Calls Try.prog 53 #[.pointer (some ⟨ki, 0, none⟩)] W fun e w' => e = .returned (.tuple #[]) ∧
      w' = (((((W.setCell ⟨g, pl, none⟩ (.pointer (some ⟨kl, 0, none⟩))).setCell ⟨kl, 8, none⟩ (.int .i64 pl)).setCell ⟨g, l, none⟩ (.pointer none)).setCell ⟨kp, 7, none⟩ (.slice (some ⟨g, 0, none⟩) l cap))).drew.drew := by
  have w1 : IntKind.i64.wrap (l : Int) = l := by rw [IntKind.wrap_i64]; omega
  have w2 : wrap64 (l : Int) = l := by simp only [wrap64]; omega
  have hg2 : (W.setCell ⟨g, pl, none⟩ (.pointer (some ⟨kl, 0, none⟩))).cell? ⟨g, l, none⟩ = some (.pointer (some ⟨kl, 0, none⟩)) := by
    by_cases e : pl = l
    · rw [e]; exact World.cell?_setCell_same _ _ _ (by rw [← e]; exact hgp)
    · exact (World.cell?_setCell_other _ _ _ _ (by simp)).trans hgl
  have i1 := fun W => KR.ix (P := Try.prog) g 0 (l + 1) cap l (by omega) W
  have i2 := fun W => KR.ix (P := Try.prog) g 0 (l + 1) cap pl hpl W
  go_enter Try.func53, Try.ntmps53
  go_wp2
  go_region
  go_wp2
  go_region
  go_end0
  exact ⟨rfl, rfl⟩
/-- one taken out of the list of the one above; the last one takes its place -/
def lv (Z : Nat → Dy) (i p q : Nat) : Nat → Dy := C.upd (C.upd Z q { Z q with pl := (Z i).pl }) p { Z p with un := ((Z p).un.set (Z i).pl q).dropLast }
def lvW (W : World) (g pl kl l kp cap : Nat) : World := (((((W.setCell ⟨g, pl, none⟩ (.pointer (some ⟨kl, 0, none⟩))).setCell ⟨kl, 8, none⟩ (.int .i64 pl)).setCell ⟨g, l, none⟩ (.pointer none)).setCell ⟨kp, 7, none⟩ (.slice (some ⟨g, 0, none⟩) l cap))).drew.drew
section
variable {g pl kl l kp cap : Nat}
theorem lvW_other {b : Nat} (h1 : b ≠ g) (h2 : b ≠ kl) (h3 : b ≠ kp) : (lvW W g pl kl l kp cap).heap[b]? = W.heap[b]? := by
  unfold lvW
  rw [drewHeap, drewHeap, hcOther h3, hcOther h1, hcOther h2, hcOther h1]
theorem lvW_q {cs : Array Value} {t : TypeId} {f : Nat × Nat} (hk : W.heap[kl]? = some (.cells cs t f)) (h1 : kl ≠ g) (h2 : kl ≠ kp) : (lvW W g pl kl l kp cap).heap[kl]? = some (.cells (cs.setIfInBounds 8 (.int .i64 pl)) t f) := by
  unfold lvW
  rw [drewHeap, drewHeap, hcOther h2, hcOther h1]
  exact hcSame ((hcOther h1).trans hk) 8 _
theorem lvW_p {cs : Array Value} {t : TypeId} {f : Nat × Nat} (hk : W.heap[kp]? = some (.cells cs t f)) (h1 : kp ≠ g) (h2 : kp ≠ kl) : (lvW W g pl kl l kp cap).heap[kp]? = some (.cells (cs.setIfInBounds 7 (.slice (some ⟨g, 0, none⟩) l cap)) t f) := by
  unfold lvW
  rw [drewHeap, drewHeap]
  refine hcSame ?_ 7 _
  rw [hcOther h1, hcOther h2, hcOther h1]
  exact hk
theorem lvW_g {cs : Array Value} {t : TypeId} {f : Nat × Nat} (hk : W.heap[g]? = some (.cells cs t f)) (h1 : g ≠ kl) (h2 : g ≠ kp) : (lvW W g pl kl l kp cap).heap[g]? = some (.cells ((cs.setIfInBounds pl (.pointer (some ⟨kl, 0, none⟩))).setIfInBounds l (.pointer none)) t f) := by
  unfold lvW
  rw [drewHeap, drewHeap, hcOther h2]
  refine hcSame ?_ l _
  rw [hcOther h1]
  exact hcSame hk pl _
theorem lvW_size (W : World) (g pl kl l kp cap : Nat) : (lvW W g pl kl l kp cap).heap.size = W.heap.size ∧ (lvW W g pl kl l kp cap).os = W.os ∧ (lvW W g pl kl l kp cap).tape = W.tape ∧ (lvW W g pl kl l kp cap).output = W.output := by
  simp [lvW, World.setCell, World.drew]
end
set_option maxHeartbeats 1000000 in
theorem kLeave (h : Fk B W G Z m n) {i p q : Nat} (hi : i < n) (hp : p < n) (hq : q < n) (hpq : p ≠ q) (ha : (Z i).abv = p + 1) (hu : (Z p).un[(Z i).pl]? = some i) (hl : (Z p).un.getLast? = some q) (hsm : (Z p).un.length < 6000000000000) :
    Calls Try.prog 53 #[.pointer (some ⟨G.kb i, 0, none⟩)] W fun e w' => e = .returned (.tuple #[]) ∧ Fk B w' G (lv Z i p q) m n ∧ Fr B W w' := by
  have lt : ∀ {b : Nat} {o : Obj}, W.heap[b]? = some o → b < W.heap.size := fun e => (Array.getElem?_eq_some_iff.1 e).1
  obtain ⟨hpl, _⟩ := List.getElem?_eq_some_iff.1 hu
  obtain ⟨l, hl1⟩ : ∃ l, (Z p).un.length = l + 1 := ⟨(Z p).un.length - 1, by omega⟩
  have hlq : (Z p).un[l]? = some q := by rw [List.getLast?_eq_getElem?] at hl; rw [← hl, hl1]; rfl
  -- the row
  have hrow := h.row p hp
  obtain ⟨hlen, hr2⟩ := hrow
  rcases hr2 with ⟨_, h0⟩ | ⟨g, cap, cur, hv, hBg, hg0, hcap, hmax, hcs, htk⟩
  · rw [List.length_map] at h0; omega
  have hg : W.heap[g]? = some (.cells cur 78 (0, 0)) := hg0
  clear hg0
  simp only [Value.slice.injEq] at hv
  obtain ⟨hua, hvl, huc⟩ := hv
  rw [List.length_map, hl1] at hcap htk
  have hn1 : KR.n = 1 := rfl
  rw [hn1] at hcs htk
  have hcell : ∀ j x, (Z p).un[j]? = some x → cur[j]? = some (Value.pointer (some ⟨G.kb x, 0, none⟩)) := fun j x hx => by
    have hj : j < l + 1 := by have := (List.getElem?_eq_some_iff.1 hx).1; omega
    have e1 : (KR.flat ((Z p).un.map G.kb))[j]? = some (.pointer (some ⟨G.kb x, 0, none⟩)) := by
      have hj2 : j < ((Z p).un.map G.kb).length := by rw [List.length_map]; omega
      have := KR.flat_get ((Z p).un.map G.kb) j hj2 0 (by decide)
      rw [hn1, Nat.mul_one, Nat.add_zero] at this
      rw [this]
      have e2 : ((Z p).un.map G.kb)[j] = G.kb x := by
        rw [List.getElem_map]
        rw [List.getElem?_eq_getElem (by omega)] at hx
        rw [Option.some.inj hx]
      rw [e2]
      rfl
    rw [← htk, List.getElem?_take, if_pos (by omega)] at e1
    simpa using e1
  have hki := h.kn i hi
  have hkp := h.kn p hp
  have hkq := h.kn q hq
  have hgk : ∀ j, j < n → g ≠ G.kb j := fun j hj e => by have := h.kn j hj; rw [← e, hg] at this; simp at this
  have hgc : ∀ j, j < n → g ≠ G.ch j := fun j hj e => by have := h.chn j hj; rw [← e, hg] at this; simp at this
  have hgt : ∀ j, j < m → g ≠ G.tb j := fun j hj e => by have := h.tok j hj; rw [← e, hg] at this; simp at this
  have hqp : G.kb q ≠ G.kb p := fun e => hpq (h.kinj q p hq hp e).symm
  have hw := leave_walk (W := W) (G.kb i) (G.kb p) (G.kb q) g cap l (Z i).pl (Z q).pl (.pointer (some ⟨G.kb i, 0, none⟩))
    (by have := h.cell hi (j := 6) rfl; rw [this]; show some (abP G (Z i).abv) = _; rw [ha]; rfl) (h.cell hi rfl)
    (by have := h.cell hp (j := 7) rfl; rw [this]; show some (Value.slice (Z p).ua (Z p).un.length (Z p).uc) = _; rw [hua, hl1, huc])
    (S.arr_cell hg (hcell l q hlq)) (S.arr_cell hg (hcell _ i hu)) (h.cell hq rfl) (by omega) hcap (by omega) (hgk i hi) (hgk p hp) (hgk q hq) hqp (frz0 hg) (frz0 hkq) (frz0 hkp)
  refine hw.mono ?_
  rintro e w' ⟨rfl, hw'⟩
  obtain rfl : w' = lvW W g (Z i).pl (G.kb q) l (G.kb p) cap := hw'
  refine ⟨rfl, ?_⟩
  clear hw
  obtain ⟨U, hU⟩ : ∃ U, U = W.setCell ⟨G.kb q, 8, none⟩ (.int .i64 (Z i).pl) := ⟨_, rfl⟩
  have hUs : U.heap.size = W.heap.size := by rw [hU]; simp [World.setCell]
  have hf1 : Fk B U G (C.upd Z q { Z q with pl := (Z i).pl }) m n := by
    refine h.upd hq _ W.heap.size ?_ ?_ (fun b _ h1 _ _ => by rw [hU]; exact hcOther h1) ?_ (fun j hj => by have := lt (h.tok j hj); omega) (fun j hj => ⟨by have := lt (h.kn j hj); omega, by have := lt (h.chn j hj); omega⟩) (fun j hj hne a ha => ⟨by obtain ⟨_, cs, e⟩ := h.rowb hj ha; have := lt e; omega, fun b hb e => hne (h.rinj j q hj hq a b ha hb e)⟩)
    · rw [hU]; exact hcSame hkq 8 _
    · rw [hU]; exact (hcOther (h.ne_kc hq hq).symm).trans (h.chn q hq)
    · refine S.own_keep (h.row q hq) fun x hx0 => ?_
      have hx : (Value.slice (Z q).ua ((Z q).un.map G.kb).length (Z q).uc).ownBlock = some x := hx0
      cases ha : (Z q).ua with
      | none => rw [ha] at hx; cases hx
      | some a =>
        rw [ha] at hx
        obtain rfl : a.block = x := Option.some.inj hx
        obtain ⟨_, cs, hcs⟩ := h.rowb hq ha
        rw [hU]
        exact hcOther (fun e => by rw [e, hkq] at hcs; simp at hcs)
  have hF := fun b (h1 : b ≠ g) (h2 : b ≠ G.kb q) (h3 : b ≠ G.kb p) => lvW_other (W := W) (pl := (Z i).pl) (l := l) (cap := cap) h1 h2 h3
  have hFq := lvW_q (pl := (Z i).pl) (l := l) (cap := cap) hkq (hgk q hq).symm hqp
  have hFp := lvW_p (pl := (Z i).pl) (l := l) (cap := cap) hkp (hgk p hp).symm hqp.symm
  have hFg := lvW_g (pl := (Z i).pl) (l := l) (cap := cap) hg (hgk q hq) (hgk p hp)
  have hFs := lvW_size W g (Z i).pl (G.kb q) l (G.kb p) cap
  generalize lvW W g (Z i).pl (G.kb q) l (G.kb p) cap = F at hF hFq hFp hFg hFs ⊢
  obtain ⟨hFs, hFo, hFt, hFu⟩ := hFs
  have hUo : ∀ b, b ≠ G.kb q → U.heap[b]? = W.heap[b]? := fun b hb => by rw [hU]; exact hcOther hb
  have hlen2 : ((Z p).un.set (Z i).pl q).dropLast.length = l := by simp [hl1]
  refine ⟨?_, ?_⟩
  · refine hf1.upd hp _ g ?_ ?_ (fun b _ h1 _ h3 => ?_) ?_ (fun j hj => (hgt j hj).symm) (fun j hj => ⟨(hgk j hj).symm, (hgc j hj).symm⟩) (fun j hj hne a ha => ?_)
    · rw [hFp]
      have e : knC G p { Z p with un := ((Z p).un.set (Z i).pl q).dropLast } = (knC G p (Z p)).setIfInBounds 7 (.slice (some ⟨g, 0, none⟩) l cap) := by
        have : knC G p { Z p with un := ((Z p).un.set (Z i).pl q).dropLast } = (knC G p (Z p)).setIfInBounds 7 (.slice (Z p).ua ((Z p).un.set (Z i).pl q).dropLast.length (Z p).uc) := rfl
        rw [this, hua, hlen2, huc]
      rw [e]
    · have := (hF (G.ch p) (hgc p hp).symm (h.ne_kc hq hp).symm (h.ne_kc hp hp).symm).trans (h.chn p hp)
      exact this
    · by_cases e : b = G.kb q
      · rw [e, hFq, hU, hcSame hkq 8]
      · rw [hF b h3 e h1, hUo b e]
    · refine ⟨?_, .inr ⟨g, cap, _, ?_, hBg, hFg, ?_, hmax, ?_, ?_⟩⟩
      · rw [KR.flat_len]
      · show Value.slice (Z p).ua _ (Z p).uc = _
        rw [hua, huc]
      · rw [List.length_map, hlen2]; omega
      · simpa [hn1] using hcs
      · rw [hn1, Nat.mul_one, List.length_map, hlen2]
        have hcl : l < cur.size := by omega
        refine List.ext_getElem? fun j => ?_
        by_cases hj : j < l
        · have hx : ∃ x, ((Z p).un.set (Z i).pl q).dropLast[j]? = some x := ⟨_, List.getElem?_eq_getElem (by rw [hlen2]; exact hj)⟩
          obtain ⟨x, hx⟩ := hx
          have hx2 : ((Z p).un.set (Z i).pl q)[j]? = some x := by
            rw [List.getElem?_dropLast] at hx
            split at hx
            · exact hx
            · cases hx
          have e1 : (KR.flat ((((Z p).un.set (Z i).pl q).dropLast).map G.kb))[j]? = some (Value.pointer (some ⟨G.kb x, 0, none⟩)) := by
            have hj2 : j < ((((Z p).un.set (Z i).pl q).dropLast).map G.kb).length := by rw [List.length_map, hlen2]; exact hj
            have := KR.flat_get ((((Z p).un.set (Z i).pl q).dropLast).map G.kb) j hj2 0 (by decide)
            rw [hn1, Nat.mul_one, Nat.add_zero] at this
            rw [this]
            have e2 : ((((Z p).un.set (Z i).pl q).dropLast).map G.kb)[j] = G.kb x := by
              rw [List.getElem_map]
              rw [List.getElem?_eq_getElem (by rw [hlen2]; exact hj)] at hx
              rw [Option.some.inj hx]
            rw [e2]
            rfl
          rw [e1, List.getElem?_take, if_pos hj, Array.getElem?_toList, Array.getElem?_setIfInBounds_ne (by omega)]
          rw [List.getElem?_set] at hx2
          by_cases ep : (Z i).pl = j
          · rw [if_pos ep, if_pos (by omega)] at hx2
            rw [← Option.some.inj hx2, ep, Array.getElem?_setIfInBounds_self_of_lt (by omega)]
          · rw [if_neg ep] at hx2
            rw [Array.getElem?_setIfInBounds_ne ep]
            exact hcell j x hx2
        · rw [List.getElem?_take, if_neg hj, List.getElem?_eq_none]
          rw [KR.flat_len, List.length_map, hlen2, hn1]
          omega
    · have ha2 : (Z j).ua = some a := by
        by_cases e : j = q
        · subst e; rw [upd_same] at ha; exact ha
        · rw [upd_ne _ _ _ e] at ha; exact ha
      refine ⟨fun e => hne (h.rinj j p hj hp a _ ha2 hua e), fun b hb e => hne (h.rinj j p hj hp a b ha2 hb e)⟩
  · refine ⟨hFo, hFt, hFu, by omega, fun b hb _ => hF b (by omega) (by have := (h.low q hq).1; omega) (by have := (h.low p hp).1; omega), fun b c t f hb h1 h2 => (hF b (fun e => ?_) (fun e => ?_) (fun e => ?_)).trans hb, fun b c u cl s r x hb h1 => (hF b (fun e => ?_) (fun e => ?_) (fun e => ?_)).trans hb⟩
    · rw [e, hg] at hb; simp at hb; exact h2 hb.2.1.symm
    · rw [e, hkq] at hb; simp at hb; exact h1 hb.2.1.symm
    · rw [e, hkp] at hb; simp at hb; exact h1 hb.2.1.symm
    · rw [e, hg] at hb; simp at hb
    · rw [e, hkq] at hb; simp at hb
    · rw [e, hkp] at hb; simp at hb
end
end Go.Proofs.Ytajbkgcgmkkpiaa.C
