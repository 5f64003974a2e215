/- Tokens: the Once carried out; end. -/
import Derived.Test.YtajbkgcgmkkpiaaCne
namespace Go.Proofs.Ytajbkgcgmkkpiaa.C
open Go.RowKit Go.Lib Go.MuLone Go.Conc
set_option maxRecDepth 100000 in
set_option maxHeartbeats 2000000 in
theorem kDoFirst (w : World) (d y x kb c lb : Nat) (w0 why pl : Int) (ab un : Value) (h : Rdy w d y x kb c why) (hk : w.heap[kb]? = some (.cells (knA lb c 0 0 w0 ab un pl) 98 (0, 0))) :
    Calls Try.prog 64 #[.pointer (some ⟨kb, 2, none⟩), .func (.func 65) #[] #[.pointer (some ⟨d, 0, none⟩), .pointer (some ⟨y, 0, none⟩), .pointer (some ⟨x, 0, none⟩)]] w fun e w' => e = .returned (.tuple #[]) ∧
      w' = ((cloW (w.setCell ⟨kb, 3, none⟩ (.int .i32 1)) d kb c why).drew.setCell ⟨kb, 2, none⟩ (.int .u32 1)).setCell ⟨kb, 3, none⟩ (.int .i32 0) := by
  have hs := kSlow w d y x kb c lb w0 why pl ab un h hk
  generalize ((cloW (w.setCell ⟨kb, 3, none⟩ (.int .i32 1)) d kb c why).drew.setCell ⟨kb, 2, none⟩ (.int .u32 1)).setCell ⟨kb, 3, none⟩ (.int .i32 0) = F at hs ⊢
  have HS := hide hs
  clear hs
  have hl := run_call_load (P := Try.prog) Try.func99 (by kernel_rfl) (by kernel_rfl) (by kernel_rfl) .u32 (by kernel_rfl) (w := w) (a := ⟨kb, 2, none⟩) (x := 0) (S.arr_cell hk rfl)
  have hnot : ∀ (x : Bool) (w : World), (Op.unary .not (.bool x)).run Try.prog w = .ok (.bool (!x)) w := fun _ _ => rfl
  clear h hk
  go_enter Try.func64, Try.ntmps64
  go_wp2_with (first | (go_at_call 80; refine (unhide HS).mono ?_; rintro e w' ⟨rfl, hw⟩; obtain rfl := hw.symm; clear HS) | (go_at_call 79; go_in))
  go_end0
  exact ⟨rfl, rfl⟩
theorem kDoDone (a : Addr) (fv : Value) (w : World) (h0 : w.cell? a = some (.int .u32 1)) :
    Calls Try.prog 64 #[.pointer (some a), fv] w fun e w' => e = .returned (.tuple #[]) ∧ w' = w := by
  have hl := run_call_load (P := Try.prog) Try.func99 (by kernel_rfl) (by kernel_rfl) (by kernel_rfl) .u32 (by kernel_rfl) h0
  have hnot : ∀ (x : Bool) (w : World), (Op.unary .not (.bool x)).run Try.prog w = .ok (.bool (!x)) w := fun _ _ => rfl
  go_enter Try.func64, Try.ntmps64
  go_wp2
  go_end0
  exact ⟨rfl, rfl⟩
/-- one token turned -/
def upd (Z : Nat → Dy) (i : Nat) (d : Dy) : Nat → Dy := fun j => if j = i then d else Z j
theorem upd_same (Z : Nat → Dy) (i : Nat) (d : Dy) : upd Z i d i = d := if_pos rfl
theorem upd_ne (Z : Nat → Dy) (i : Nat) (d : Dy) {j : Nat} (h : j ≠ i) : upd Z i d j = Z j := if_neg h
section
variable {B : Nat} {W W' : World} {G : Geo} {Z : Nat → Dy} {m n : Nat}
theorem Fk.ne_tk (h : Fk B W G Z m n) {i j : Nat} (hi : i < m) (hj : j < n) : G.tb i ≠ G.kb j := fun e => by
  have h1 := h.tok i hi
  rw [e, h.kn j hj] at h1
  simp [knC] at h1
theorem Fk.ne_tc (h : Fk B W G Z m n) {i j : Nat} (hi : i < m) (hj : j < n) : G.tb i ≠ G.ch j := fun e => by
  have h1 := h.tok i hi
  rw [e, h.chn j hj] at h1
  simp at h1
theorem Fk.ne_kc (h : Fk B W G Z m n) {i j : Nat} (hi : i < n) (hj : j < n) : G.kb i ≠ G.ch j := fun e => by
  have h1 := h.kn i hi
  rw [e, h.chn j hj] at h1
  simp at h1
theorem Fk.rowb (h : Fk B W G Z m n) {j : Nat} (hj : j < n) {a : Addr} (ha : (Z j).ua = some a) : B ≤ a.block ∧ ∃ cs, W.heap[a.block]? = some (.cells cs 78 (0, 0)) := by
  have h1 := (h.row j hj).2
  rcases h1 with ⟨hv, _⟩ | ⟨g, cap, cur, hv, hg, hh, _⟩
  · rw [ha] at hv; simp at hv
  · rw [ha] at hv
    simp only [Value.slice.injEq, Option.some.injEq] at hv
    obtain ⟨hv, _⟩ := hv
    subst hv
    exact ⟨hg, cur, hh⟩
/-- one token turned in memory; the block r is its row, or nobody's -/
theorem Fk.upd (h : Fk B W G Z m n) {i : Nat} (hi : i < n) (d : Dy) (r : Nat) 
    (hk : W'.heap[G.kb i]? = some (.cells (knC G i d) 98 (0, 0))) (hc : W'.heap[G.ch i]? = some (.chan 0 #[] (decide (¬ d.why = 0)) 0 0 false))
    (ho : ∀ b, b < W.heap.size → b ≠ G.kb i → b ≠ G.ch i → b ≠ r → W'.heap[b]? = W.heap[b]?)
    (hr : KR.Own W' B (d.un.map G.kb) d.ua d.uc)
    (hm : ∀ j, j < m → G.tb j ≠ r) (hn : ∀ j, j < n → G.kb j ≠ r ∧ G.ch j ≠ r) (hrow : ∀ j, j < n → j ≠ i → ∀ a, (Z j).ua = some a → a.block ≠ r ∧ ∀ b, d.ua = some b → a.block ≠ b.block) : Fk B W' G (C.upd Z i d) m n := by
  have lt : ∀ {b : Nat} {o : Obj}, W.heap[b]? = some o → b < W.heap.size := fun e => (Array.getElem?_eq_some_iff.1 e).1
  refine ⟨h.le, fun j hj => ?_, fun j hj => ?_, fun j hj => ?_, fun j hj => ?_, h.kinj, h.cinj, fun j k hj hk' a b ha hb e => ?_, h.lot, h.low⟩
  · exact (ho _ (lt (h.tok j hj)) (h.ne_tk hj hi) (h.ne_tc hj hi) (hm j hj)).trans (h.tok j hj)
  · by_cases e : j = i
    · subst e; rw [upd_same]; exact hk
    · rw [upd_ne _ _ _ e]
      exact (ho _ (lt (h.kn j hj)) (fun q => e (h.kinj j i hj hi q)) (h.ne_kc hj hi) (hn j hj).1).trans (h.kn j hj)
  · by_cases e : j = i
    · subst e; rw [upd_same]; exact hc
    · rw [upd_ne _ _ _ e]
      exact (ho _ (lt (h.chn j hj)) (h.ne_kc hi hj).symm (fun q => e (h.cinj j i hj hi q)) (hn j hj).2).trans (h.chn j hj)
  · by_cases e : j = i
    · subst e; rw [upd_same]; exact hr
    · rw [upd_ne _ _ _ e]
      refine S.own_keep (h.row j hj) fun g hg => ?_
      cases ha : (Z j).ua with
      | none => rw [ha] at hg; cases hg
      | some a =>
        rw [ha] at hg
        obtain rfl : a.block = g := Option.some.inj hg
        obtain ⟨_, cs, hcs⟩ := h.rowb hj ha
        refine ho _ (lt hcs) (fun q => ?_) (fun q => ?_) (hrow j hj e a ha).1
        · have := h.kn i hi
          rw [← q, hcs] at this
          simp at this
        · have := h.chn i hi
          rw [← q, hcs] at this
          simp at this
  · by_cases e1 : j = i
    · by_cases e2 : k = i
      · rw [e1, e2]
      · subst e1
        rw [upd_same] at ha
        rw [upd_ne _ _ _ e2] at hb
        exact absurd e.symm ((hrow k hk' e2 b hb).2 a ha)
    · by_cases e2 : k = i
      · subst e2
        rw [upd_same] at hb
        rw [upd_ne _ _ _ e1] at ha
        exact absurd e ((hrow j hj e1 a ha).2 b hb)
      · rw [upd_ne _ _ _ e1] at ha
        rw [upd_ne _ _ _ e2] at hb
        exact h.rinj j k hj hk' a b ha hb e
/-- nothing of theirs turned -/
theorem Fk.below (h : Fk B W G Z m n) (hb : Below W.heap.size W W') : Fk B W' G Z m n := by
  have k : ∀ {b : Nat} {o : Obj}, W.heap[b]? = some o → W'.heap[b]? = some o := fun e => (hb.block _ (Array.getElem?_eq_some_iff.1 e).1).trans e
  exact ⟨h.le, fun j hj => k (h.tok j hj), fun j hj => k (h.kn j hj), fun j hj => k (h.chn j hj), fun j hj => (h.row j hj).below hb, h.kinj, h.cinj, h.rinj, h.lot, h.low⟩
end
end Go.Proofs.Ytajbkgcgmkkpiaa.C
