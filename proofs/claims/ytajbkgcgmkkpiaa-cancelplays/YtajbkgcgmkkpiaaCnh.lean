/- Tokens: New, fresh. -/
import Derived.Test.YtajbkgcgmkkpiaaCng
namespace Go.Proofs.Ytajbkgcgmkkpiaa.C
open Go.RowKit Go.Lib Go.MuLone Go.Conc
theorem mkChan (w : World) : (Instr.makeChan 90 (.int .i64 0)).run Try.prog w = .ok (.chan (some w.heap.size)) (w.alloc (.chan 0 #[] false 0 0 false)) := by
  have h : (Try.prog.info? 81).map (·.bytes) = some 0 := by kernel_rfl
  obtain ⟨i, hi, hb⟩ := Option.map_eq_some_iff.1 h
  simpa using run_makeChan (P := Try.prog) (w := w) Try.underlying90 hi .i64 0 (by omega) (by rw [hb]; omega)
/-- behind fresh -/
def freshW (W : World) (lb : Nat) : World := (W.alloc (.chan 0 #[] false 0 0 false)).alloc (.cells (knA lb W.heap.size 0 0 0 (.pointer none) (.slice none 0 0) 0) 98)
theorem freshW_below (W : World) (lb : Nat) : Below W.heap.size W (freshW W lb) := ((Below.refl _ _).alloc (Nat.le_refl _) _).alloc (by simp) _
theorem freshW_size (W : World) (lb : Nat) : (freshW W lb).heap.size = W.heap.size + 2 := by simp [freshW]
theorem freshW_ch (W : World) (lb : Nat) : (freshW W lb).heap[W.heap.size]? = some (.chan 0 #[] false 0 0 false) := heapOld _ (heap_alloc_new W _)
theorem freshW_kb (W : World) (lb : Nat) : (freshW W lb).heap[W.heap.size + 1]? = some (.cells (knA lb W.heap.size 0 0 0 (.pointer none) (.slice none 0 0) 0) 98 (0, 0)) := by
  have := heap_alloc_new (W.alloc (.chan 0 #[] false 0 0 false)) (.cells (knA lb W.heap.size 0 0 0 (.pointer none) (.slice none 0 0) 0) 98)
  rw [World.size_alloc] at this
  exact this
theorem kFresh (lb : Nat) (W : World) : Calls Try.prog 48 #[.pointer (some ⟨lb, 0, none⟩)] W fun e w' => e = .returned (.pointer (some ⟨W.heap.size + 1, 0, none⟩)) ∧ w' = freshW W lb := by
  have hm := mkChan
  go_enter Try.func48, Try.ntmps48
  go_wp2
  go_ret
  exact ⟨rfl, rfl⟩
/-- one token more -/
def Geo.ext (G : Geo) (n tb kb lb ch up : Nat) : Geo := ⟨fun j => if j = n then tb else G.tb j, fun j => if j = n then kb else G.kb j, fun j => if j = n then lb else G.lb j, fun j => if j = n then ch else G.ch j, fun j => if j = n then up else G.up j⟩
section
variable {B : Nat} {W W' : World} {G : Geo} {Z : Nat → Dy} {m n tb kb lb ch up : Nat}
theorem ext_tb {j : Nat} (h : j < n) : (G.ext n tb kb lb ch up).tb j = G.tb j := if_neg (by omega)
theorem ext_kb {j : Nat} (h : j < n) : (G.ext n tb kb lb ch up).kb j = G.kb j := if_neg (by omega)
theorem ext_lb {j : Nat} (h : j < n) : (G.ext n tb kb lb ch up).lb j = G.lb j := if_neg (by omega)
theorem ext_ch {j : Nat} (h : j < n) : (G.ext n tb kb lb ch up).ch j = G.ch j := if_neg (by omega)
theorem ext_up {j : Nat} (h : j < n) : (G.ext n tb kb lb ch up).up j = G.up j := if_neg (by omega)
theorem ext_self : (G.ext n tb kb lb ch up).tb n = tb ∧ (G.ext n tb kb lb ch up).kb n = kb ∧ (G.ext n tb kb lb ch up).lb n = lb ∧ (G.ext n tb kb lb ch up).ch n = ch ∧ (G.ext n tb kb lb ch up).up n = up := ⟨if_pos rfl, if_pos rfl, if_pos rfl, if_pos rfl, if_pos rfl⟩
/-- what they name is there -/
def Ok (Z : Nat → Dy) (n : Nat) : Prop := ∀ i, i < n → (Z i).abv ≤ n ∧ ∀ j ∈ (Z i).un, j < n
theorem ext_abP {a : Nat} (h : a ≤ n) : abP (G.ext n tb kb lb ch up) a = abP G a := by
  cases a with
  | zero => rfl
  | succ a => simp only [abP]; rw [ext_kb (by omega)]
theorem ext_knC (hO : Ok Z n) {j : Nat} (h : j < n) : knC (G.ext n tb kb lb ch up) j (Z j) = knC G j (Z j) := by
  rw [knC_A, knC_A, ext_lb h, ext_ch h, ext_abP (hO j h).1]
theorem ext_un (hO : Ok Z n) {j : Nat} (h : j < n) : (Z j).un.map (G.ext n tb kb lb ch up).kb = (Z j).un.map G.kb := List.map_congr_left fun i hi => ext_kb ((hO j h).2 i hi)
theorem Fk.reG (h : Fk B W G Z m n) (hO : Ok Z n) (tb kb lb ch up : Nat) : Fk B W (G.ext n tb kb lb ch up) Z m n := by
  have hm := h.le
  refine ⟨h.le, fun j hj => ?_, fun j hj => ?_, fun j hj => ?_, fun j hj => ?_, fun i j hi hj => ?_, fun i j hi hj => ?_, h.rinj, fun j hj => ?_, fun j hj => ?_⟩
  · rw [ext_tb (by omega), ext_kb (by omega)]; exact h.tok j hj
  · rw [ext_kb hj, ext_knC hO hj]; exact h.kn j hj
  · rw [ext_ch hj]; exact h.chn j hj
  · rw [ext_un hO hj]; exact h.row j hj
  · rw [ext_kb hi, ext_kb hj]; exact h.kinj i j hi hj
  · rw [ext_ch hi, ext_ch hj]; exact h.cinj i j hi hj
  · rw [ext_tb (by omega)]; exact h.lot j hj
  · rw [ext_kb hj, ext_lb hj, ext_ch hj]; exact h.low j hj
theorem Fk.addK (h : Fk B W G Z m n) (d : Dy) (hk : W.heap[G.kb n]? = some (.cells (knC G n d) 98 (0, 0))) (hc : W.heap[G.ch n]? = some (.chan 0 #[] (decide (¬ d.why = 0)) 0 0 false))
    (hr : d.un = [] ∧ d.ua = none ∧ d.uc = 0) (hl : B ≤ G.kb n ∧ B ≤ G.lb n ∧ B ≤ G.ch n) (h1 : ∀ j, j < n → G.kb j ≠ G.kb n) (h2 : ∀ j, j < n → G.ch j ≠ G.ch n) : Fk B W G (C.upd Z n d) m (n + 1) := by
  have hm := h.le
  have ne : ∀ {j : Nat}, j < n + 1 → j ≠ n → j < n := fun a b => by omega
  refine ⟨by omega, h.tok, fun j hj => ?_, fun j hj => ?_, fun j hj => ?_, fun i j hi hj e => ?_, fun i j hi hj e => ?_, fun i j hi hj a b ha hb e => ?_, h.lot, fun j hj => ?_⟩
  · by_cases e : j = n
    · subst e; rw [upd_same]; exact hk
    · rw [upd_ne _ _ _ e]; exact h.kn j (ne hj e)
  · by_cases e : j = n
    · subst e; rw [upd_same]; exact hc
    · rw [upd_ne _ _ _ e]; exact h.chn j (ne hj e)
  · by_cases e : j = n
    · subst e; rw [upd_same, hr.1, hr.2.1, hr.2.2]; exact S.Rec.Own.none _ _
    · rw [upd_ne _ _ _ e]; exact h.row j (ne hj e)
  · by_cases e1 : i = n
    · by_cases e2 : j = n
      · omega
      · rw [e1] at e; exact absurd e.symm (h1 j (ne hj e2))
    · by_cases e2 : j = n
      · rw [e2] at e; exact absurd e (h1 i (ne hi e1))
      · exact h.kinj i j (ne hi e1) (ne hj e2) e
  · by_cases e1 : i = n
    · by_cases e2 : j = n
      · omega
      · rw [e1] at e; exact absurd e.symm (h2 j (ne hj e2))
    · by_cases e2 : j = n
      · rw [e2] at e; exact absurd e (h2 i (ne hi e1))
      · exact h.cinj i j (ne hi e1) (ne hj e2) e
  · by_cases e1 : i = n
    · subst e1; rw [upd_same, hr.2.1] at ha; cases ha
    · by_cases e2 : j = n
      · subst e2; rw [upd_same, hr.2.1] at hb; cases hb
      · rw [upd_ne _ _ _ e1] at ha
        rw [upd_ne _ _ _ e2] at hb
        exact h.rinj i j (ne hi e1) (ne hj e2) a b ha hb e
  · by_cases e : j = n
    · subst e; exact hl
    · exact h.low j (ne hj e)
theorem Fk.addT (h : Fk B W G Z m n) (hm : m < n) (ht : W.heap[G.tb m]? = some (.cells #[.pointer (some ⟨G.kb m, 0, none⟩)] 89 (0, 0))) (hb : B ≤ G.tb m) : Fk B W G Z (m + 1) n := by
  refine ⟨hm, fun j hj => ?_, h.kn, h.chn, h.row, h.kinj, h.cinj, h.rinj, fun j hj => ?_, h.low⟩
  · by_cases e : j = m
    · subst e; exact ht
    · exact h.tok j (by omega)
  · by_cases e : j = m
    · subst e; exact hb
    · exact h.lot j (by omega)
/-- a token that is not cancelled, with nothing under it -/
def dy0 : Dy := ⟨0, 0, [], none, 0, 0⟩
/-- behind fresh one token more is there, but for its own block -/
theorem fresh_fk (h : Fk B W G Z m n) (hO : Ok Z n) (hB : B ≤ W.heap.size) (tb lb up : Nat) (hl : B ≤ lb) : Fk B (freshW W lb) (G.ext n tb (W.heap.size + 1) lb W.heap.size up) (C.upd Z n dy0) m (n + 1) := by
  have lt : ∀ {b : Nat} {o : Obj}, W.heap[b]? = some o → b < W.heap.size := fun e => (Array.getElem?_eq_some_iff.1 e).1
  obtain ⟨_, e2, e3, e4, _⟩ := ext_self (G := G) (n := n) (tb := tb) (kb := W.heap.size + 1) (lb := lb) (ch := W.heap.size) (up := up)
  refine ((h.below (freshW_below W lb)).reG hO tb (W.heap.size + 1) lb W.heap.size up).addK dy0 ?_ ?_ ⟨rfl, rfl, rfl⟩ ?_ (fun j hj => ?_) (fun j hj => ?_)
  · rw [knC_A, e2, e3, e4]
    exact freshW_kb W lb
  · rw [e4]
    exact freshW_ch W lb
  · rw [e2, e3, e4]
    exact ⟨by omega, hl, hB⟩
  · rw [ext_kb hj, e2]
    have := lt (h.kn j hj)
    omega
  · rw [ext_ch hj, e4]
    have := lt (h.chn j hj)
    omega
theorem kNew (h : Fo B W G Z n) (hO : Ok Z n) (hB : B ≤ W.heap.size) :
    Calls Try.prog 12 #[] W fun e w' => e = .returned (.pointer (some ⟨W.heap.size + 3, 0, none⟩)) ∧
      Fo B w' (G.ext n (W.heap.size + 3) (W.heap.size + 2) W.heap.size (W.heap.size + 1) 0) (C.upd Z n dy0) (n + 1) ∧ Fr B W w' := by
  have lt : ∀ {b : Nat} {o : Obj}, W.heap[b]? = some o → b < W.heap.size := fun e => (Array.getElem?_eq_some_iff.1 e).1
  obtain ⟨U, hU⟩ : ∃ U, U = W.alloc (.cells #[.int .i32 0, .int .u32 0] 87) := ⟨_, rfl⟩
  have hs : U.heap.size = W.heap.size + 1 := by rw [hU, World.size_alloc]
  have hb : Below W.heap.size W U := by rw [hU]; exact (Below.refl _ _).alloc (Nat.le_refl _) _
  have hn : U.heap[W.heap.size]? = some (.cells #[.int .i32 0, .int .u32 0] 87 (0, 0)) := by rw [hU]; exact heap_alloc_new _ _
  have hf := fresh_fk (h.fk.below hb) hO (by omega : B ≤ U.heap.size) (W.heap.size + 3) W.heap.size 0 hB
  obtain ⟨e1, e2, e3, e4, _⟩ := ext_self (G := G) (n := n) (tb := W.heap.size + 3) (kb := W.heap.size + 2) (lb := W.heap.size) (ch := W.heap.size + 1) (up := 0)
  have hfs := freshW_size U W.heap.size
  have hfb := freshW_below U W.heap.size
  rw [hs] at hf
  have hb2 : Below W.heap.size W (freshW U W.heap.size) := hb.trans (Below.mono hfb (by omega))
  have HK := hide (kFresh W.heap.size U)
  generalize hV : freshW U W.heap.size = V at *
  have hp : Fo B (V.alloc (.cells #[.pointer (some ⟨W.heap.size + 2, 0, none⟩)] 89)) (G.ext n (W.heap.size + 3) (W.heap.size + 2) W.heap.size (W.heap.size + 1) 0) (C.upd Z n dy0) (n + 1) ∧ Fr B W (V.alloc (.cells #[.pointer (some ⟨W.heap.size + 2, 0, none⟩)] 89)) := by
    have hb3 : Below V.heap.size V (V.alloc (.cells #[.pointer (some ⟨W.heap.size + 2, 0, none⟩)] 89)) := (Below.refl _ _).alloc (Nat.le_refl _) _
    have hb4 : Below W.heap.size W (V.alloc (.cells #[.pointer (some ⟨W.heap.size + 2, 0, none⟩)] 89)) := hb2.trans (Below.mono hb3 (by omega))
    refine ⟨⟨(hf.below hb3).addT (Nat.lt_succ_self _) ?_ ?_, fun j hj => ?_⟩, Fr.of hb4⟩
    · rw [e1, e2]
      have := heap_alloc_new V (.cells #[.pointer (some ⟨W.heap.size + 2, 0, none⟩)] 89)
      rw [hfs, hs] at this
      exact this
    · rw [e1]; omega
    · by_cases e : j = n
      · subst e
        rw [e3]
        exact heapOld _ ((hfb.block _ (by omega)).trans hn)
      · rw [ext_lb (by omega)]
        have q := h.lk j (by omega)
        exact (hb4.block _ (lt q)).trans q
  have HP := hide hp
  have hvs : V.heap.size = W.heap.size + 3 := by omega
  clear h hO hB hb hn hf e1 e2 e3 e4 hfs hfb hb2 hp hV
  go_enter Try.func12, Try.ntmps12
  go_wp2_with (go_at_call 48; rw [← hU]; refine (unhide HK).mono ?_; rintro e w' ⟨rfl, hw⟩; obtain rfl := hw.symm; clear HK)
  go_ret
  exact ⟨rfl, unhide HP⟩
end
end Go.Proofs.Ytajbkgcgmkkpiaa.C
