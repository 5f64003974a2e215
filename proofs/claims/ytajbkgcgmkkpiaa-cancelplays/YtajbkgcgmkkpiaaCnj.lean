/- Tokens: take under one that is cancelled; Under. -/
import Derived.Test.YtajbkgcgmkkpiaaCni
namespace Go.Proofs.Ytajbkgcgmkkpiaa.C
open Go.RowKit Go.Lib Go.MuLone Go.Conc
section
variable {B : Nat} {W W' : World} {G : Geo} {Z : Nat → Dy} {m n tb kb lb ch up : Nat}
set_option maxRecDepth 100000 in
theorem kTakeDead (h : Fk B W G Z m n) {p q : Nat} (hp : p < n) (hq : q < n) (hlp : ¬ (Z p).why = 0) (hlq : (Z q).why = 0) :
    Calls Try.prog 52 #[.pointer (some ⟨G.kb p, 0, none⟩), .pointer (some ⟨G.kb q, 0, none⟩)] W fun e w' => e = .returned (.tuple #[]) ∧
      Fk B w' G (C.upd Z q ((Z q).ended (Z p).why)) m n ∧ Fr B W w' := by
  have hpw : W.cell? ⟨G.kb p, 3 + 2, none⟩ = some (.int .i64 (Z p).why) := h.cell hp rfl
  have HE := hide (kEndLive h hq (Z p).why hlp hlq)
  have hd : ((Z p).why != 0) = true := by simp [hlp]
  clear h
  go_enter Try.func52, Try.ntmps52
  go_wp2_with (go_at_call 55; refine (unhide HE).mono ?_; rintro e w' ⟨rfl, hw⟩; have HW := hide hw; clear hw)
  refine bodyPost_ret (results_none rfl _ _ _) rfl ?_
  exact ⟨rfl, unhide HW⟩
theorem Fk.other (h : Fk B W G Z m n) {g : Nat} {cs : Array Value} {t : TypeId} {f : Nat × Nat} (hg : W.heap[g]? = some (.cells cs t f)) (h1 : t ≠ 89) (h2 : t ≠ 98) (h3 : t ≠ 78) (k : Nat) (v : Value) : Fk B (W.setCell ⟨g, k, none⟩ v) G Z m n := by
  have hk : ∀ {b : Nat} {o : Obj}, W.heap[b]? = some o → (∀ c f', o ≠ .cells c t f') → (W.setCell ⟨g, k, none⟩ v).heap[b]? = some o := fun hb hno => (hcOther (fun e => by
    rw [e, hg] at hb
    exact hno _ _ (Option.some.inj hb).symm)).trans hb
  refine ⟨h.le, fun j hj => hk (h.tok j hj) (by simp [Ne.symm h1]), fun j hj => hk (h.kn j hj) (by simp [Ne.symm h2]), fun j hj => hk (h.chn j hj) (by simp), fun j hj => ?_, h.kinj, h.cinj, h.rinj, h.lot, h.low⟩
  refine S.own_keep (h.row j hj) fun x hx => ?_
  cases ha : (Z j).ua with
  | none => rw [ha] at hx; cases hx
  | some a =>
    rw [ha] at hx
    obtain rfl : a.block = x := Option.some.inj hx
    obtain ⟨_, c, hc⟩ := h.rowb hj ha
    exact (hk hc (by simp [Ne.symm h3])).trans hc.symm
theorem Fk.retb (h : Fk B W (G.ext n tb kb lb ch up) Z n (n + 1)) (tb' : Nat) : Fk B W (G.ext n tb' kb lb ch up) Z n (n + 1) := by
  have hab : ∀ a, abP (G.ext n tb' kb lb ch up) a = abP (G.ext n tb kb lb ch up) a := fun a => by cases a <;> rfl
  have hkn : ∀ i d, knC (G.ext n tb' kb lb ch up) i d = knC (G.ext n tb kb lb ch up) i d := fun i d => by rw [knC_A, knC_A, hab]; rfl
  refine ⟨h.le, fun j hj => ?_, fun j hj => ?_, h.chn, h.row, h.kinj, h.cinj, h.rinj, fun j hj => ?_, h.low⟩
  · have := h.tok j hj
    rw [ext_tb hj] at this ⊢
    exact this
  · rw [hkn]; exact h.kn j hj
  · have := h.lot j hj
    rw [ext_tb hj] at this ⊢
    exact this
theorem lock_fr {V X : World} {l : Nat} (hl : V.heap[l]? = some (.cells #[.int .i32 0, .int .u32 0] 87 (0, 0))) (hB : B ≤ l) (h : Fr B (V.setCell ⟨l, 0, none⟩ (.int .i32 1)) X) :
    Fr B V (X.setCell ⟨l, 0, none⟩ (.int .i32 0)) ∧ X.heap[l]? = some (.cells #[.int .i32 1, .int .u32 0] 87 (0, 0)) := by
  have hx := h.typ l _ _ _ (hcSame hl 0 (.int .i32 1)) (by decide) (by decide)
  have hs : V.heap.size ≤ X.heap.size := by have := h.size; simpa [World.setCell] using this
  refine ⟨⟨h.os, h.tape, h.output, by simpa [World.setCell] using hs, fun b hb hsb => (hcOther (by omega)).trans ((h.low b hb (by simpa [World.setCell] using hsb)).trans (hcOther (by omega))), fun b c t f hb h1 h2 => ?_, fun b c u cl s r q hb h1 => ?_⟩, hx⟩
  · by_cases e : b = l
    · subst e
      rw [hl] at hb
      have := hcSame hx 0 (.int .i32 0)
      rw [← hb]
      exact this
    · exact (hcOther e).trans (h.typ b c t f ((hcOther e).trans hb) h1 h2)
  · by_cases e : b = l
    · subst e; rw [hl] at hb; simp at hb
    · exact (hcOther e).trans (h.chn b c u cl s r q ((hcOther e).trans hb) h1)
set_option maxRecDepth 100000 in
theorem kUnderNil (h : Fo B W G Z n) (hO : Ok Z n) (hB : B ≤ W.heap.size) :
    Calls Try.prog 13 #[.pointer none] W fun e w' => e = .returned (.pointer (some ⟨W.heap.size + 3, 0, none⟩)) ∧
      Fo B w' (G.ext n (W.heap.size + 3) (W.heap.size + 2) W.heap.size (W.heap.size + 1) 0) (C.upd Z n dy0) (n + 1) ∧ Fr B W w' := by
  have HN := hide (kNew h hO hB)
  clear h hO
  go_enter_defers Try.func13, Try.ntmps13
  go_wp2_with (first | (go_at_call 49; refine (kNeverNil _).mono ?_; rintro e w' ⟨rfl, hw⟩; obtain rfl := hw.symm) | (go_at_call 12; refine (unhide HN).mono ?_; rintro e w' ⟨rfl, hw⟩; have HW := hide hw; clear hw))
  exact ⟨_, results_tmp rfl _ _ _, rfl, unhide HW⟩
/-- Under, whatever take does -/
theorem kUnder (h : Fo B W G Z n) (hO : Ok Z n) (hB : B ≤ W.heap.size) {p : Nat} (hp : p < n) (F : (Nat → Dy) → Prop)
    (ht : ∀ U, Fk B U (G.ext n 0 (W.heap.size + 1) (G.lb p) W.heap.size (p + 1)) (C.upd Z n dy0) n (n + 1) → B ≤ U.heap.size → Calls Try.prog 52 #[.pointer (some ⟨G.kb p, 0, none⟩), .pointer (some ⟨W.heap.size + 1, 0, none⟩)] U fun e w' => e = .returned (.tuple #[]) ∧
      ∃ Z', F Z' ∧ Fk B w' (G.ext n 0 (W.heap.size + 1) (G.lb p) W.heap.size (p + 1)) Z' n (n + 1) ∧ Fr B U w') :
    Calls Try.prog 13 #[.pointer (some ⟨G.tb p, 0, none⟩)] W fun e w' => ∃ tb Z', e = .returned (.pointer (some ⟨tb, 0, none⟩)) ∧ F Z' ∧
      Fo B w' (G.ext n tb (W.heap.size + 1) (G.lb p) W.heap.size (p + 1)) Z' (n + 1) ∧ Fr B W w' := by
  have lt : ∀ {b : Nat} {o : Obj}, W.heap[b]? = some o → b < W.heap.size := fun e => (Array.getElem?_eq_some_iff.1 e).1
  have hlow := (h.fk.low p hp).2.1
  have hf := fresh_fk h.fk hO hB 0 (G.lb p) (p + 1) hlow
  have hfb := freshW_below W (G.lb p)
  have hfs := freshW_size W (G.lb p)
  have hpt : W.cell? ⟨G.tb p, 0, none⟩ = some (.pointer (some ⟨G.kb p, 0, none⟩)) := h.fk.ptk hp
  have hpl : W.cell? ⟨G.kb p, 0, none⟩ = some (.pointer (some ⟨G.lb p, 0, none⟩)) := h.fk.cell hp rfl
  have hlk : (freshW W (G.lb p)).heap[G.lb p]? = some (.cells #[.int .i32 0, .int .u32 0] 87 (0, 0)) := (hfb.block _ (lt (h.lk p hp))).trans (h.lk p hp)
  have hpt1 := (hfb.block _ (lt (h.fk.tok p hp))).trans (h.fk.tok p hp)
  have hnl : G.tb p ≠ G.lb p := fun e => by have := h.fk.tok p hp; rw [e, h.lk p hp] at this; simp at this
  have hkc0 := freshW_kb W (G.lb p)
  have hnk : W.heap.size + 1 ≠ G.lb p := by have := lt (h.lk p hp); omega
  have HK := hide (kFresh (G.lb p) W)
  have HNE := hide (kNever h.fk hp)
  obtain ⟨V, hV⟩ : ∃ V, V = freshW W (G.lb p) := ⟨_, rfl⟩
  have hlkall : ∀ j, j < n + 1 → V.heap[(G.ext n 0 (W.heap.size + 1) (G.lb p) W.heap.size (p + 1)).lb j]? = some (.cells #[.int .i32 0, .int .u32 0] 87 (0, 0)) := fun j hj => by
    rw [hV]
    by_cases e : j = n
    · subst e
      rw [ext_self.2.2.1]
      exact hlk
    · rw [ext_lb (by omega)]
      exact (hfb.block _ (lt (h.lk j (by omega)))).trans (h.lk j (by omega))
  rw [← hV] at hf hfb hfs hlk hpt1 hkc0 HK
  have hlc : V.cell? ⟨G.lb p, 0, none⟩ = some (.int .i32 0) := (S.box2 hlk).1
  have hlf := frz0 hlk 0
  have hf1 := hf.other hlk (by decide) (by decide) (by decide) 0 (.int .i32 1)
  have HT := hide (ht (V.setCell ⟨G.lb p, 0, none⟩ (.int .i32 1)) hf1 (by simp [World.setCell]; omega))
  have hpt2 : (V.setCell ⟨G.lb p, 0, none⟩ (.int .i32 1)).cell? ⟨G.tb p, 0, none⟩ = some (.pointer (some ⟨G.kb p, 0, none⟩)) := S.cell_one ((hcOther hnl).trans hpt1)
  have hkc2 : (V.setCell ⟨G.lb p, 0, none⟩ (.int .i32 1)).cell? ⟨W.heap.size + 1, 0, none⟩ = some (.pointer (some ⟨G.lb p, 0, none⟩)) := S.arr_cell ((hcOther hnk).trans hkc0) rfl
  have hpt3 := S.cell_one hpt1
  have hkc3 : V.cell? ⟨W.heap.size + 1, 0, none⟩ = some (.pointer (some ⟨G.lb p, 0, none⟩)) := S.arr_cell hkc0 rfl
  clear hpt1 hkc0
  have HLK := hide hlk
  have HLA := hide hlkall
  have HFB := hide hfb
  have HLO := hide hlow
  have HBB := hide hB
  have HFS := hide hfs
  clear h hO hf hfb hfs hlk hlkall ht hf1 hV hnl hnk hB lt
  go_enter_defers Try.func13, Try.ntmps13
  go_wp2_with (first
    | (go_at_call 49; refine (unhide HNE).mono ?_; rintro e w' ⟨rfl, hw⟩; obtain rfl := hw.symm; clear HNE)
    | (go_at_call 48; refine (unhide HK).mono ?_; rintro e w' ⟨rfl, hw⟩; obtain rfl := hw.symm; clear HK)
    | (go_at_call 50; refine (lock_free muLib ⟨G.lb p, 0, none⟩ _ hlc hlf).mono ?_; rintro e w' ⟨rfl, rfl⟩)
    | (go_at_call 52; refine (unhide HT).mono ?_; rintro e X ⟨rfl, Z', hF, hX, hR⟩; have HX := hide hX; have HR := hide hR; have HFF := hide hF; clear hX hR hF HT))
  have hb3 : Below X.heap.size X (X.alloc (.cells #[.pointer (some ⟨W.heap.size + 1, 0, none⟩)] 89)) := (Below.refl _ _).alloc (Nat.le_refl _) _
  obtain ⟨hq1, hq2⟩ := lock_fr (unhide HLK) (unhide HLO) ((unhide HR).trans (Fr.of hb3))
  have hsz := (unhide HR).size
  have hsz2 : V.heap.size ≤ X.heap.size := by simpa [World.setCell] using hsz
  have hfs := unhide HFS
  refine leaves_cons (f := 51) (args := #[.pointer (some ⟨G.lb p, 0, none⟩)]) (by simp) (by simp [go_sem]) ?_
  refine (unlock_deferred muLib ⟨G.lb p, 0, none⟩ .returning _ (S.box2 hq2).1 (frz0 hq2 0)).mono ?_
  rintro e u' w'' ⟨rfl, rfl, rfl⟩
  refine ⟨_, results_tmp rfl _ _ _, X.heap.size, Z', rfl, unhide HFF, ⟨((((unhide HX).retb X.heap.size).below hb3).addT (Nat.lt_succ_self _) ?_ ?_).other hq2 (by decide) (by decide) (by decide) 0 _, fun j hj => ?_⟩, (Fr.of (unhide HFB)).trans hq1⟩
  · rw [ext_self.1, ext_self.2.1]
    exact heap_alloc_new X _
  · rw [ext_self.1]
    have := unhide HBB
    omega
  · exact hq1.typ _ _ _ _ (unhide HLA j hj) (by decide) (by decide)
theorem kUnderLive (h : Fo B W G Z n) (hO : Ok Z n) (hB : B ≤ W.heap.size) {p : Nat} (hp : p < n) (hl : (Z p).why = 0) (hlen : (Z p).un.length < 6000000000000) :
    Calls Try.prog 13 #[.pointer (some ⟨G.tb p, 0, none⟩)] W fun e w' => ∃ tb Z', e = .returned (.pointer (some ⟨tb, 0, none⟩)) ∧ (∃ ao c', Z' = C.upd (C.upd (C.upd Z n dy0) n (dy0.laid p (Z p).un.length)) p ((Z p).with ((Z p).un ++ [n]) ao c')) ∧
      Fo B w' (G.ext n tb (W.heap.size + 1) (G.lb p) W.heap.size (p + 1)) Z' (n + 1) ∧ Fr B W w' := by
  refine kUnder h hO hB hp _ fun U hU hBU => ?_
  have e1 : C.upd Z n dy0 p = Z p := upd_ne _ _ _ (by omega)
  have e2 : C.upd Z n dy0 n = dy0 := upd_same _ _ _
  have k := kTakeLive hU hBU (p := p) (q := n) (by omega) (by omega) (by omega) (by rw [e1]; exact hl) (by rw [e1]; exact hlen)
  rw [ext_kb hp, ext_self.2.1, e1, e2] at k
  refine k.mono ?_
  rintro e w' ⟨rfl, ao, c', h1, h2⟩
  exact ⟨rfl, _, ⟨ao, c', rfl⟩, h1, h2⟩
theorem kUnderDead (h : Fo B W G Z n) (hO : Ok Z n) (hB : B ≤ W.heap.size) {p : Nat} (hp : p < n) (hl : ¬ (Z p).why = 0) :
    Calls Try.prog 13 #[.pointer (some ⟨G.tb p, 0, none⟩)] W fun e w' => ∃ tb Z', e = .returned (.pointer (some ⟨tb, 0, none⟩)) ∧ (Z' = C.upd (C.upd Z n dy0) n (dy0.ended (Z p).why)) ∧
      Fo B w' (G.ext n tb (W.heap.size + 1) (G.lb p) W.heap.size (p + 1)) Z' (n + 1) ∧ Fr B W w' := by
  refine kUnder h hO hB hp _ fun U hU hBU => ?_
  have e1 : C.upd Z n dy0 p = Z p := upd_ne _ _ _ (by omega)
  have e2 : C.upd Z n dy0 n = dy0 := upd_same _ _ _
  have k := kTakeDead hU (p := p) (q := n) (by omega) (by omega) (by rw [e1]; exact hl) (by rw [e2]; rfl)
  rw [ext_kb hp, ext_self.2.1, e1, e2] at k
  refine k.mono ?_
  rintro e w' ⟨rfl, h1, h2⟩
  exact ⟨rfl, _, rfl, h1, h2⟩
end
end Go.Proofs.Ytajbkgcgmkkpiaa.C
