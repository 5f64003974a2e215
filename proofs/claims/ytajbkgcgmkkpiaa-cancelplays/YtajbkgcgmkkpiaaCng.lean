/- Tokens: end. -/
import Derived.Test.YtajbkgcgmkkpiaaCnf
namespace Go.Proofs.Ytajbkgcgmkkpiaa.C
open Go.RowKit Go.Lib Go.MuLone Go.Conc
/-- the rows of such pointers lie as they lay -/
def Rk (W W' : World) : Prop := ∀ (b : Nat) (c : Array Value) (f : Nat × Nat), W.heap[b]? = some (.cells c 78 f) → W'.heap[b]? = some (.cells c 78 f)
theorem Rk.of {W W' : World} (h : Below W.heap.size W W') : Rk W W' := fun b _ _ hb => (h.block b (Array.getElem?_eq_some_iff.1 hb).1).trans hb
theorem Rk.trans {U V W : World} (h : Rk U V) (k : Rk V W) : Rk U W := fun b c f hb => k b c f (h b c f hb)
def Dy.ended (d : Dy) (why : Int) : Dy := { d with why := why, abv := 0, un := [], ua := none, uc := 0 }
/-- behind the three new variables of end -/
def endU (W : World) (kb : Nat) (why : Int) : World := (((W.alloc (.cells #[.pointer (some ⟨kb, 0, none⟩)] 78)).alloc (.cells #[.int .i64 why] 38)).alloc (.cells #[.bool false] 4))
section
variable {B : Nat} {W W' : World} {G : Geo} {Z : Nat → Dy} {m n : Nat}
theorem endU_old (W : World) (kb : Nat) (why : Int) {b : Nat} (hb : b < W.heap.size) : (endU W kb why).heap[b]? = W.heap[b]? := by
  have h := ((((Below.refl W.heap.size W).alloc (Nat.le_refl _) (.cells #[.pointer (some ⟨kb, 0, none⟩)] 78)).alloc (by simp) (.cells #[.int .i64 why] 38)).alloc (by simp; omega) (.cells #[.bool false] 4)).block b hb
  exact h
theorem endU_size (W : World) (kb : Nat) (why : Int) : (endU W kb why).heap.size = W.heap.size + 3 := by simp [endU]
theorem endU_below (W : World) (kb : Nat) (why : Int) : Below W.heap.size W (endU W kb why) := ⟨rfl, rfl, rfl, by rw [endU_size]; omega, fun _ hb => endU_old W kb why hb⟩
theorem endU_rdy (h : Fk B W G Z m n) {i : Nat} (hi : i < n) (why : Int) (hl : (Z i).why = 0) : Rdy (endU W (G.kb i) why) (W.heap.size + 1 + 1) (W.heap.size + 1) W.heap.size (G.kb i) (G.ch i) why := by
  have lt : ∀ {b : Nat} {o : Obj}, W.heap[b]? = some o → b < W.heap.size := fun e => (Array.getElem?_eq_some_iff.1 e).1
  have hk := lt (h.kn i hi)
  have hc := h.chn i hi
  rw [hl] at hc
  refine ⟨⟨.bool false, ?_⟩, ?_, ?_, (endU_old _ _ _ (lt hc)).trans hc, by omega, by omega, by omega, by omega, by omega⟩
  · have e : (((W.alloc (.cells #[.pointer (some ⟨G.kb i, 0, none⟩)] 78)).alloc (.cells #[.int .i64 why] 38)).alloc (.cells #[.bool false] 4)).heap[W.heap.size + 1 + 1]? = some (.cells #[.bool false] 4 (0, 0)) := by
      have := heap_alloc_new ((W.alloc (.cells #[.pointer (some ⟨G.kb i, 0, none⟩)] 78)).alloc (.cells #[.int .i64 why] 38)) (.cells #[.bool false] 4)
      simpa using this
    exact e
  · have e : ((W.alloc (.cells #[.pointer (some ⟨G.kb i, 0, none⟩)] 78)).alloc (.cells #[.int .i64 why] 38)).heap[W.heap.size + 1]? = some (.cells #[.int .i64 why] 38 (0, 0)) := by
      have := heap_alloc_new (W.alloc (.cells #[.pointer (some ⟨G.kb i, 0, none⟩)] 78)) (.cells #[.int .i64 why] 38)
      simpa using this
    exact heapOld _ e
  · exact heapOld _ (heapOld _ (heap_alloc_new W _))
/-- behind all of it -/
def endW (U : World) (d kb c : Nat) (why : Int) : World := ((cloW (U.setCell ⟨kb, 3, none⟩ (.int .i32 1)) d kb c why).drew.setCell ⟨kb, 2, none⟩ (.int .u32 1)).setCell ⟨kb, 3, none⟩ (.int .i32 0)
theorem drewHeap (w : World) : w.drew.heap = w.heap := rfl
theorem endW_other {U : World} {d kb c : Nat} {why : Int} {b : Nat} (h1 : b ≠ d) (h2 : b ≠ kb) (h3 : b ≠ c) : (endW U d kb c why).heap[b]? = U.heap[b]? := by
  unfold endW
  rw [hcOther h2, hcOther h2, drewHeap, cloW_other h1 h2 h3, hcOther h2]
theorem knC_A (G : Geo) (i : Nat) (d : Dy) : knC G i d = knA (G.lb i) (G.ch i) (if d.why = 0 then 0 else 1) 0 d.why (abP G d.abv) (.slice d.ua d.un.length d.uc) d.pl := rfl
theorem endW_size (U : World) (d kb c : Nat) (why : Int) : (endW U d kb c why).heap.size = U.heap.size := by simp [endW, cloW, World.setCell, World.setChan, drewHeap]
theorem endW_kb {U : World} {d y x kb c lb : Nat} {w0 why pl : Int} {ab un : Value} (hr : Rdy U d y x kb c why) (hk : U.heap[kb]? = some (.cells (knA lb c 0 0 w0 ab un pl) 98 (0, 0))) :
    (endW U d kb c why).heap[kb]? = some (.cells (knA lb c 1 0 why (.pointer none) (.slice none 0 0) pl) 98 (0, 0)) := by
  have hk1 := hcSame hk 3 (.int .i32 1)
  have hk1' : (U.setCell ⟨kb, 3, none⟩ (.int .i32 1)).heap[kb]? = some (.cells (knA lb c 0 1 w0 ab un pl) 98 (0, 0)) := hk1
  have hk2 := cloW_kb (hr.set ⟨_, hk⟩ 3 (.int .i32 1)) hk1'
  unfold endW
  generalize cloW (U.setCell ⟨kb, 3, none⟩ (.int .i32 1)) d kb c why = C at hk2 ⊢
  exact hcSame (hcSame (show C.drew.heap[kb]? = _ from hk2) 2 (.int .u32 1)) 3 (.int .i32 0)
theorem endW_ch {U : World} {d y x kb c : Nat} {why : Int} {cs : Array Value} (hr : Rdy U d y x kb c why) (hk : U.heap[kb]? = some (.cells cs 98 (0, 0))) :
    (endW U d kb c why).heap[c]? = some (.chan 0 #[] true 0 0 false) := by
  have hne : c ≠ kb := fun e => by have := hr.hc; rw [e, hk] at this; cases this
  have hk2 := cloW_c (hr.set ⟨_, hk⟩ 3 (.int .i32 1))
  unfold endW
  rw [hcOther hne, hcOther hne, drewHeap, hk2]
theorem endW_d {U : World} {d y x kb c : Nat} {why : Int} {cs : Array Value} (hr : Rdy U d y x kb c why) (hk : U.heap[kb]? = some (.cells cs 98 (0, 0))) :
    (endW U d kb c why).heap[d]? = some (.cells #[.bool true] 4 (0, 0)) := by
  have hk2 := cloW_d (hr.set ⟨_, hk⟩ 3 (.int .i32 1))
  unfold endW
  rw [hcOther hr.n3, hcOther hr.n3, drewHeap, hk2]
theorem endW_os (U : World) (d kb c : Nat) (why : Int) : (endW U d kb c why).os = U.os ∧ (endW U d kb c why).tape = U.tape ∧ (endW U d kb c why).output = U.output := by simp [endW, cloW, World.setCell, World.setChan, World.drew]
theorem end_fk (h : Fk B W G Z m n) {i : Nat} (hi : i < n) (why : Int) (hw : ¬ why = 0) (hl : (Z i).why = 0) :
    Fk B (endW (endU W (G.kb i) why) (W.heap.size + 1 + 1) (G.kb i) (G.ch i) why) G (C.upd Z i ((Z i).ended why)) m n ∧ Fr B W (endW (endU W (G.kb i) why) (W.heap.size + 1 + 1) (G.kb i) (G.ch i) why) ∧ Rk W (endW (endU W (G.kb i) why) (W.heap.size + 1 + 1) (G.kb i) (G.ch i) why) := by
  have lt : ∀ {b : Nat} {o : Obj}, W.heap[b]? = some o → b < W.heap.size := fun e => (Array.getElem?_eq_some_iff.1 e).1
  have hr := endU_rdy h hi why hl
  have hk0 := h.kn i hi
  have hk := (endU_old W (G.kb i) why (lt hk0)).trans hk0
  rw [knC_A, hl, if_pos rfl] at hk
  have hk3 := endW_kb hr hk
  have hc := endW_ch hr hk
  have hoth : ∀ b, b < W.heap.size → b ≠ G.kb i → b ≠ G.ch i → (endW (endU W (G.kb i) why) (W.heap.size + 1 + 1) (G.kb i) (G.ch i) why).heap[b]? = W.heap[b]? := fun b h0 h1 h2 => (endW_other (by omega) h1 h2).trans (endU_old _ _ _ h0)
  have hs : (endW (endU W (G.kb i) why) (W.heap.size + 1 + 1) (G.kb i) (G.ch i) why).heap.size = W.heap.size + 3 := by rw [endW_size, endU_size]
  obtain ⟨o1, o2, o3⟩ := endW_os (endU W (G.kb i) why) (W.heap.size + 1 + 1) (G.kb i) (G.ch i) why
  have ob := endU_below W (G.kb i) why
  rw [ob.os] at o1
  rw [ob.tape] at o2
  rw [ob.output] at o3
  generalize endW (endU W (G.kb i) why) (W.heap.size + 1 + 1) (G.kb i) (G.ch i) why = F at hk3 hc hoth hs o1 o2 o3 ⊢
  clear hr hk ob
  refine ⟨h.upd hi _ W.heap.size ?_ ?_ (fun b h0 h1 h2 _ => hoth b h0 h1 h2) (S.Rec.Own.none _ _) (fun j hj => by have := lt (h.tok j hj); omega) (fun j hj => ⟨by have := lt (h.kn j hj); omega, by have := lt (h.chn j hj); omega⟩) (fun j hj _ a ha => ⟨by obtain ⟨_, cs, q⟩ := h.rowb hj ha; have := lt q; omega, fun b hb => by cases hb⟩), ?_, fun b c f hb => (hoth b (lt hb) (fun e => ?_) (fun e => ?_)).trans hb⟩
  · rw [knC_A]
    show F.heap[G.kb i]? = some (.cells (knA (G.lb i) (G.ch i) (if why = 0 then 0 else 1) 0 why (.pointer none) (.slice none 0 0) (Z i).pl) 98 (0, 0))
    have e : (if why = 0 then (0 : Int) else 1) = 1 := if_neg hw
    rw [e]
    exact hk3
  · simp only [Dy.ended, hw, not_false_eq_true, decide_true]
    exact hc
  · refine ⟨o1, o2, o3, by omega, fun b hb hs => hoth b hs (by have := (h.low i hi).1; omega) (by have := (h.low i hi).2.2; omega), fun b c t f hb h1 h2 => (hoth b (lt hb) (fun e => ?_) (fun e => ?_)).trans hb, fun b cap buf cl s r tm hb h1 => (hoth b (lt hb) (fun e => ?_) (fun e => ?_)).trans hb⟩
    · rw [e, hk0] at hb; simp at hb; exact h1 hb.2.1.symm
    · have := h.chn i hi; rw [← e, hb] at this; simp at this
    · rw [e, hk0] at hb; simp at hb
    · have := h.chn i hi; rw [← e, hb] at this; simp at this; exact h1 this.1
  · rw [e, hk0] at hb; simp at hb
  · have := h.chn i hi; rw [← e, hb] at this; simp at this
set_option maxRecDepth 100000 in
theorem kEndLive' (h : Fk B W G Z m n) {i : Nat} (hi : i < n) (why : Int) (hw : ¬ why = 0) (hl : (Z i).why = 0) :
    Calls Try.prog 55 #[.pointer (some ⟨G.kb i, 0, none⟩), .int .i64 why] W fun e w' => e = .returned (.bool true) ∧ Fk B w' G (C.upd Z i ((Z i).ended why)) m n ∧ Fr B W w' ∧ Rk W w' := by
  have hmf : ∀ (fn : Fn) (first cap : Array Value) (w : World), (Instr.makeFunc fn first cap).run Try.prog w = .ok (.func fn first cap) w := fun _ _ _ _ => rfl
  have hf := end_fk h hi why hw hl
  have hr := endU_rdy h hi why hl
  have lt : ∀ {b : Nat} {o : Obj}, W.heap[b]? = some o → b < W.heap.size := fun e => (Array.getElem?_eq_some_iff.1 e).1
  have hk0 := h.kn i hi
  have hk := (endU_old W (G.kb i) why (lt hk0)).trans hk0
  rw [knC_A, hl, if_pos rfl] at hk
  have HD := kDoFirst _ _ _ _ _ _ _ _ _ _ _ _ hr hk
  have hd : (endW (endU W (G.kb i) why) (W.heap.size + 1 + 1) (G.kb i) (G.ch i) why).cell? ⟨W.heap.size + 1 + 1, 0, none⟩ = some (.bool true) := S.cell_one (endW_d hr hk)
  have HD' : Calls Try.prog 64 #[.pointer (some ⟨G.kb i, 2, none⟩), .func (.func 65) #[] #[.pointer (some ⟨W.heap.size + 1 + 1, 0, none⟩), .pointer (some ⟨W.heap.size + 1, 0, none⟩), .pointer (some ⟨W.heap.size, 0, none⟩)]] (endU W (G.kb i) why) fun e w' => e = .returned (.tuple #[]) ∧ w' = endW (endU W (G.kb i) why) (W.heap.size + 1 + 1) (G.kb i) (G.ch i) why := HD
  generalize endW (endU W (G.kb i) why) (W.heap.size + 1 + 1) (G.kb i) (G.ch i) why = F at hf hd HD'
  have HH := hide HD'
  have HF := hide hf
  clear HD HD' hf hr hk hk0 h
  go_enter Try.func55, Try.ntmps55
  go_wp2_with (go_at_call 64; refine (unhide HH).mono ?_; rintro e w' ⟨rfl, hw⟩; obtain rfl := hw.symm; clear HH)
  go_ret
  exact ⟨rfl, unhide HF⟩
set_option maxRecDepth 100000 in
theorem kEndDead' (h : Fk B W G Z m n) {i : Nat} (hi : i < n) (why : Int) (hl : ¬ (Z i).why = 0) :
    Calls Try.prog 55 #[.pointer (some ⟨G.kb i, 0, none⟩), .int .i64 why] W fun e w' => e = .returned (.bool false) ∧ Fk B w' G Z m n ∧ Fr B W w' ∧ Rk W w' := by
  have hmf : ∀ (fn : Fn) (first cap : Array Value) (w : World), (Instr.makeFunc fn first cap).run Try.prog w = .ok (.func fn first cap) w := fun _ _ _ _ => rfl
  have lt : ∀ {b : Nat} {o : Obj}, W.heap[b]? = some o → b < W.heap.size := fun e => (Array.getElem?_eq_some_iff.1 e).1
  have hb := endU_below W (G.kb i) why
  have hk0 := h.kn i hi
  have hk := (endU_old W (G.kb i) why (lt hk0)).trans hk0
  rw [knC_A, if_neg hl] at hk
  have hc2 : (endU W (G.kb i) why).cell? ⟨G.kb i, 2, none⟩ = some (.int .u32 1) := S.arr_cell hk rfl
  have hd : (endU W (G.kb i) why).cell? ⟨W.heap.size + 1 + 1, 0, none⟩ = some (.bool false) := by
    have e : (((W.alloc (.cells #[.pointer (some ⟨G.kb i, 0, none⟩)] 78)).alloc (.cells #[.int .i64 why] 38)).alloc (.cells #[.bool false] 4)).heap[W.heap.size + 1 + 1]? = some (.cells #[.bool false] 4 (0, 0)) := by
      have := heap_alloc_new ((W.alloc (.cells #[.pointer (some ⟨G.kb i, 0, none⟩)] 78)).alloc (.cells #[.int .i64 why] 38)) (.cells #[.bool false] 4)
      simpa using this
    exact S.cell_one e
  have HD := hide (kDoDone ⟨G.kb i, 2, none⟩ (.func (.func 65) #[] #[.pointer (some ⟨W.heap.size + 1 + 1, 0, none⟩), .pointer (some ⟨W.heap.size + 1, 0, none⟩), .pointer (some ⟨W.heap.size, 0, none⟩)]) _ hc2)
  have HF := hide (show Fk B (endU W (G.kb i) why) G Z m n ∧ Fr B W (endU W (G.kb i) why) ∧ Rk W (endU W (G.kb i) why) from ⟨h.below hb, Fr.of hb, Rk.of hb⟩)
  clear hb hk hk0 h hc2
  go_enter Try.func55, Try.ntmps55
  go_wp2_with (go_at_call 64; refine (unhide HD).mono ?_; rintro e w' ⟨rfl, hw⟩; obtain rfl := hw.symm; clear HD)
  go_ret
  exact ⟨rfl, unhide HF⟩
theorem kEndLive (h : Fk B W G Z m n) {i : Nat} (hi : i < n) (why : Int) (hw : ¬ why = 0) (hl : (Z i).why = 0) :
    Calls Try.prog 55 #[.pointer (some ⟨G.kb i, 0, none⟩), .int .i64 why] W fun e w' => e = .returned (.bool true) ∧ Fk B w' G (C.upd Z i ((Z i).ended why)) m n ∧ Fr B W w' :=
  (kEndLive' h hi why hw hl).mono fun _ _ ⟨h1, h2, h3, _⟩ => ⟨h1, h2, h3⟩
end
end Go.Proofs.Ytajbkgcgmkkpiaa.C
