/- Tokens: the Once; end. -/
import Derived.Test.YtajbkgcgmkkpiaaCnd
namespace Go.Proofs.Ytajbkgcgmkkpiaa.C
open Go.RowKit Go.Lib Go.MuLone Go.Conc
/-- '(*sync/atomic.Bool).Store(true)', entered as a deferred call -/
theorem kStore (a : Addr) (x : Value) (u : FrameMode) (w : World) (hc : w.cell? a = some x) (hz : w.frozen? a = false) :
    CallsD Try.prog 100 #[.pointer (some a), .bool true] u w fun e u' w' => u' = u ∧ (e = .returned (.tuple #[]) ∧ w' = w.drew.setCell a (.int .u32 1)) := by
  have hc' : w.drew.cell? a = some x := by go_simp
  have hz' : w.drew.frozen? a = false := by go_simp
  have hst := run_call_store (P := Try.prog) Try.func110 (by kernel_rfl) (by kernel_rfl) (by kernel_rfl) (by kernel_rfl) (k := .u32) (y := 1) hc' hz'
  go_enter_d Try.func100, Try.ntmps100
  go_wp2
  go_region_calls
  all_goals (go_end0; exact ⟨rfl, rfl⟩)
/-- what the closure leaves -/
def cloW (w : World) (d kb c : Nat) (why : Int) : World := ((((((w.setCell ⟨d, 0, none⟩ (.bool true)).setCell ⟨kb, 5, none⟩ (.int .i64 why)).setCell ⟨kb, 6, none⟩ (.pointer none)).setCell ⟨kb, 7, none⟩ (.slice none 0 0)).drew).setChan c 0 #[] true 0 0 false)
/-- the state in which a token that is not cancelled is ended -/
structure Rdy (w : World) (d y x kb c : Nat) (why : Int) : Prop where
  hd : ∃ v, w.heap[d]? = some (.cells #[v] 4 (0, 0))
  hy : w.heap[y]? = some (.cells #[.int .i64 why] 38 (0, 0))
  hx : w.heap[x]? = some (.cells #[.pointer (some ⟨kb, 0, none⟩)] 78 (0, 0))
  hc : w.heap[c]? = some (.chan 0 #[] false 0 0 false)
  n2 : d ≠ x
  n5 : kb ≠ x
  n3 : d ≠ kb
  n1 : d ≠ y
  n4 : kb ≠ y
def knA (lb c : Nat) (o m : Int) (why : Int) (ab : Value) (un : Value) (pl : Int) : Array Value :=
  #[.pointer (some ⟨lb, 0, none⟩), .chan (some c), .int .u32 o, .int .i32 m, .int .u32 0, .int .i64 why, ab, un, .int .i64 pl]
theorem kCloA (w : World) (d y x kb c lb : Nat) (o m w0 why pl : Int) (ab un : Value) (h : Rdy w d y x kb c why) (hk : w.heap[kb]? = some (.cells (knA lb c o m w0 ab un pl) 98 (0, 0))) :
    Calls Try.prog 65 #[.pointer (some ⟨d, 0, none⟩), .pointer (some ⟨y, 0, none⟩), .pointer (some ⟨x, 0, none⟩)] w fun e w' => e = .returned (.tuple #[]) ∧ w' = cloW w d kb c why := by
  obtain ⟨v, hd⟩ := h.hd
  exact kClo d y x kb c v (.int .i64 w0) ab un why w (S.cell_one hd) (S.cell_one h.hy) (S.cell_one h.hx) (S.arr_cell hk rfl) (S.arr_cell hk rfl) (S.arr_cell hk rfl) (S.arr_cell hk rfl) h.hc (frz0 hd 0) (fun j => frz0 hk j) h.n1 h.n2 h.n3 h.n4 h.n5
theorem Rdy.set {w : World} {d y x kb c : Nat} {why : Int} (h : Rdy w d y x kb c why) (hk : ∃ cs, w.heap[kb]? = some (.cells cs 98 (0, 0))) (k : Nat) (v : Value) : Rdy (w.setCell ⟨kb, k, none⟩ v) d y x kb c why := by
  obtain ⟨u, hd⟩ := h.hd
  obtain ⟨cs, hk⟩ := hk
  have hne : c ≠ kb := fun e => by have := h.hc; rw [e, hk] at this; cases this
  exact ⟨⟨u, (hcOther h.n3).trans hd⟩, (hcOther h.n4.symm).trans h.hy, (hcOther h.n5.symm).trans h.hx, (hcOther hne).trans h.hc, h.n2, h.n5, h.n3, h.n1, h.n4⟩
theorem cloW_kb {w : World} {d y x kb c lb : Nat} {o m w0 why pl : Int} {ab un : Value} (h : Rdy w d y x kb c why) (hk : w.heap[kb]? = some (.cells (knA lb c o m w0 ab un pl) 98 (0, 0))) :
    (cloW w d kb c why).heap[kb]? = some (.cells (knA lb c o m why (.pointer none) (.slice none 0 0) pl) 98 (0, 0)) := by
  have hne : kb ≠ c := fun e => by have := h.hc; rw [← e, hk] at this; cases this
  have q1 : (w.setCell ⟨d, 0, none⟩ (.bool true)).heap[kb]? = some (.cells (knA lb c o m w0 ab un pl) 98 (0, 0)) := (hcOther (Ne.symm h.n3)).trans hk
  have q2 := hcSame (hcSame (hcSame q1 5 (.int .i64 why)) 6 (.pointer none)) 7 (.slice none 0 0)
  unfold cloW
  simp only [World.setChan]
  rw [Array.getElem?_setIfInBounds_ne (Ne.symm hne)]
  exact q2
theorem cloW_d {w : World} {d y x kb c : Nat} {why : Int} (h : Rdy w d y x kb c why) : (cloW w d kb c why).heap[d]? = some (.cells #[.bool true] 4 (0, 0)) := by
  obtain ⟨v, hd⟩ := h.hd
  have hne : d ≠ c := fun e => by have := h.hc; rw [← e, hd] at this; cases this
  unfold cloW
  simp only [World.setChan]
  rw [Array.getElem?_setIfInBounds_ne (Ne.symm hne)]
  exact (hcOther h.n3).trans ((hcOther h.n3).trans ((hcOther h.n3).trans (hcSame hd 0 (.bool true))))
theorem cloW_c {w : World} {d y x kb c : Nat} {why : Int} (h : Rdy w d y x kb c why) : (cloW w d kb c why).heap[c]? = some (.chan 0 #[] true 0 0 false) := by
  have := (Array.getElem?_eq_some_iff.1 h.hc).1
  unfold cloW
  exact heap_setChan _ _ _ _ _ _ _ _ (by simpa [World.setCell] using this)
theorem cloW_other {w : World} {d kb c : Nat} {why : Int} {i : Nat} (h1 : i ≠ d) (h2 : i ≠ kb) (h3 : i ≠ c) : (cloW w d kb c why).heap[i]? = w.heap[i]? := by
  unfold cloW
  simp only [World.setChan]
  rw [Array.getElem?_setIfInBounds_ne (Ne.symm h3)]
  exact (hcOther h2).trans ((hcOther h2).trans ((hcOther h2).trans (hcOther h1)))
set_option maxRecDepth 100000 in
set_option maxHeartbeats 2000000 in
theorem kSlow (w : World) (d y x kb c lb : Nat) (w0 why pl : Int) (ab un : Value) (h : Rdy w d y x kb c why) (hk : w.heap[kb]? = some (.cells (knA lb c 0 0 w0 ab un pl) 98 (0, 0))) :
    Calls Try.prog 80 #[.pointer (some ⟨kb, 2, none⟩), .func (.func 65) #[] #[.pointer (some ⟨d, 0, none⟩), .pointer (some ⟨y, 0, none⟩), .pointer (some ⟨x, 0, none⟩)]] w fun e w' => e = .returned (.tuple #[]) ∧
      w' = ((cloW (w.setCell ⟨kb, 3, none⟩ (.int .i32 1)) d kb c why).drew.setCell ⟨kb, 2, none⟩ (.int .u32 1)).setCell ⟨kb, 3, none⟩ (.int .i32 0) := by
  have hk1 : (w.setCell ⟨kb, 3, none⟩ (.int .i32 1)).heap[kb]? = some (.cells (knA lb c 0 1 w0 ab un pl) 98 (0, 0)) := hcSame hk 3 (.int .i32 1)
  have h1 := h.set ⟨_, hk⟩ 3 (.int .i32 1)
  have h2 := cloW_kb h1 hk1
  have HC := hide (kCloA _ d y x kb c lb 0 1 w0 why pl ab un h1 hk1)
  have hl := run_call_load (P := Try.prog) Try.func99 (by kernel_rfl) (by kernel_rfl) (by kernel_rfl) .u32 (by kernel_rfl) (w := w.setCell ⟨kb, 3, none⟩ (.int .i32 1)) (a := ⟨kb, 2, none⟩) (x := 0) (S.arr_cell hk1 rfl)
  have hc3 : w.cell? ⟨kb, 3, none⟩ = some (.int .i32 0) := S.arr_cell hk rfl
  have hf3 := frz0 hk 3
  have hd2 : (cloW (w.setCell ⟨kb, 3, none⟩ (.int .i32 1)) d kb c why).cell? ⟨kb, 2, none⟩ = some (.int .u32 0) := S.arr_cell h2 rfl
  have hf2 := frz0 h2 2
  have h3 : ((cloW (w.setCell ⟨kb, 3, none⟩ (.int .i32 1)) d kb c why).drew.setCell ⟨kb, 2, none⟩ (.int .u32 1)).heap[kb]? = some (.cells (knA lb c 1 1 why (.pointer none) (.slice none 0 0) pl) 98 (0, 0)) := hcSame (show (cloW (w.setCell ⟨kb, 3, none⟩ (.int .i32 1)) d kb c why).drew.heap[kb]? = _ from h2) 2 (.int .u32 1)
  have hc4 : ((cloW (w.setCell ⟨kb, 3, none⟩ (.int .i32 1)) d kb c why).drew.setCell ⟨kb, 2, none⟩ (.int .u32 1)).cell? ⟨kb, 3, none⟩ = some (.int .i32 1) := S.arr_cell h3 rfl
  have hf4 := frz0 h3 3
  have hnot : ∀ (x : Bool) (w : World), (Op.unary .not (.bool x)).run Try.prog w = .ok (.bool (!x)) w := fun _ _ => rfl
  clear h h1 h2 h3 hk hk1
  go_enter_defers Try.func80, Try.ntmps80
  go_wp2_with (first
    | (go_at_call 50; refine (lock_free muLib ⟨kb, 3, none⟩ _ hc3 hf3).mono ?_; rintro e w' ⟨rfl, rfl⟩)
    | (go_at_call 79; go_in)
    | (go_at_call 65; refine (unhide HC).mono ?_; rintro e w' ⟨rfl, rfl⟩; clear HC))
  refine leaves_cons (f := 100) (args := #[.pointer (some ⟨kb, 2, none⟩), .bool true]) (by simp) (by simp [go_sem]) ?_
  refine (kStore ⟨kb, 2, none⟩ (.int .u32 0) .returning _ hd2 hf2).mono ?_
  rintro e u' w'' ⟨rfl, rfl, rfl⟩
  refine leaves_cons (f := 51) (args := #[.pointer (some ⟨kb, 3, none⟩)]) (by simp [settle]) (by simp [go_sem]) ?_
  refine (unlock_deferred muLib ⟨kb, 3, none⟩ _ _ hc4 hf4).mono ?_
  rintro e u' w'' ⟨rfl, rfl, rfl⟩
  exact ⟨_, results_none rfl _ _ _, rfl, rfl⟩
end Go.Proofs.Ytajbkgcgmkkpiaa.C
