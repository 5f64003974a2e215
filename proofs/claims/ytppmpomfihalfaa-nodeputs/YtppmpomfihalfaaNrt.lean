/- Nodes: a node that is lent, with marks behind its lists. -/
import Derived.Test.YtppmpomfihalfaaNrs
import Derived.Laws.Runes
namespace Go.Proofs.Ytppmpomfihalfaa
open Go.RowKit

/-- the marks -/
def maC (k : Nat) : Cl := ⟨⟨#[109, 97, 114, 107]⟩, Utf8.encode (97 + (k : Int))⟩
def maK (k : Nat) : ByteArray := ⟨#[109, 97, 114, 107]⟩ ++ Utf8.encode (97 + (k : Int))
def maG (k : Nat) : Nat := 1000000 + k
def wC (cs : List Cl) (k : Nat) : List Cl := cs ++ (List.range k).map maC
def wK (ks : List ByteArray) (k : Nat) : List ByteArray := ks ++ (List.range k).map maK
def wG (gs : List Nat) (k : Nat) : List Nat := gs ++ (List.range k).map maG
theorem wC_len (cs : List Cl) (k : Nat) : (wC cs k).length = cs.length + k := by simp [wC]
theorem wK_len (cs : List ByteArray) (k : Nat) : (wK cs k).length = cs.length + k := by simp [wK]
theorem wG_len (cs : List Nat) (k : Nat) : (wG cs k).length = cs.length + k := by simp [wG]
theorem wC_succ (cs : List Cl) (k : Nat) : flatC (wC cs (k + 1)) = flatC (wC cs k) ++ [.string ⟨#[109, 97, 114, 107]⟩, .string (Utf8.encode (97 + (k : Int)))] := by
  simp [wC, List.range_succ, flatC, maC, Cl.cs]
theorem wK_succ (cs : List ByteArray) (k : Nat) : flatK (wK cs (k + 1)) = flatK (wK cs k) ++ [.string (maK k)] := by
  simp [wK, List.range_succ, flatK]
theorem wG_succ (cs : List Nat) (k : Nat) : flatG (wG cs (k + 1)) = flatG (wG cs k) ++ [.int .u32 ((maG k : Nat) : Int)] := by
  simp [wG, List.range_succ, flatG]
/-- while it is made: the box of what came in, the result, and the node with so many marks -/
structure Ln (u w : World) (N M : Nat) (bx : Obj) (n : Nd) (k1 k2 k3 : Nat) (b : Nv) : Prop where
  bel : Below N u w
  box : w.heap[N]? = some bx
  res : w.heap[N + 1]? = some (.cells #[.bool false, .slice none 0 0, .slice none 0 0, .slice none 0 0] 26 (0, 0))
  made : w.heap[M]? = some (.cells #[.bool n.leaf, .slice b.ca (n.cells.length + k1) b.cc, .slice b.ka (n.keys.length + k2) b.kc, .slice b.ga (n.kids.length + k3) b.gc] 26 (0, 0))
  c : w.ownsRow (N + 2) 66 2 (.slice b.ca (n.cells.length + k1) b.cc) (n.cells.length + k1) (flatC (wC n.cells k1))
  k : w.ownsRow (N + 2) 9 1 (.slice b.ka (n.keys.length + k2) b.kc) (n.keys.length + k2) (flatK (wK n.keys k2))
  g : w.ownsRow (N + 2) 50 1 (.slice b.ga (n.kids.length + k3) b.gc) (n.kids.length + k3) (flatG (wG n.kids k3))
  hM : N + 2 ≤ M
theorem not_node {w : World} {B e size : Nat} {v : Value} {n : Nat} {xs : List Value} (h : w.ownsRow B e size v n xs) (hne : e ≠ 26) {M : Nat} {cs : Array Value} {fr : Nat × Nat} (hM : w.heap[M]? = some (.cells cs 26 fr)) : ∀ g, v.ownBlock = some g → g ≠ M := by
  intro g hg hx
  obtain ⟨cur, h2⟩ := own_type h hg
  rw [hx, hM] at h2
  simp only [Option.some.injEq, Obj.cells.injEq] at h2
  exact hne h2.2.1.symm
theorem own_setM {w : World} {B e size : Nat} {v : Value} {n : Nat} {xs : List Value} (h : w.ownsRow B e size v n xs) (hne : e ≠ 26) {M : Nat} {cs : Array Value} {fr : Nat × Nat} (hM : w.heap[M]? = some (.cells cs 26 fr)) (k : Nat) (x : Value) : (w.setCell ⟨M, k, none⟩ x).ownsRow B e size v n xs :=
  own_keep h fun g hg => Below.heap_setCell w ⟨M, k, none⟩ x g (not_node h hne hM g hg)

theorem Ln.putC {u w w2 : World} {N M : Nat} {bx : Obj} {n : Nd} {k1 k2 k3 : Nat} {b : Nv} {o : Obj} {ao : Option Addr} {cp : Nat} (h : Ln u w N M bx n k1 k2 k3 b) (hg : (w.alloc o).grownBy w2 (Value.slice b.ca (n.cells.length + k1) b.cc).ownBlock)
    (ho : w2.ownsRow (N + 2) 66 2 (.slice ao (n.cells.length + k1 + 1) cp) (n.cells.length + k1 + 1) (flatC (wC n.cells (k1 + 1)))) :
    Ln u (w2.setCell ⟨M, 1, none⟩ (.slice ao (n.cells.length + k1 + 1) cp)) N M bx n (k1 + 1) k2 k3 { b with ca := ao, cc := cp } := by
  have hMl := (Array.getElem?_eq_some_iff.1 h.made).1
  have hNl := (Array.getElem?_eq_some_iff.1 h.res).1
  have hMN := h.hM
  have hlt := h.c.lt
  have hblk : ∀ x, x < w.heap.size → some x ≠ (Value.slice b.ca (n.cells.length + k1) b.cc).ownBlock → w2.heap[x]? = w.heap[x]? := fun x hx hne => by
    rw [hg.block x (by simp; omega) hne]
    exact heap_alloc_old w o hx
  have hmd : w2.heap[M]? = w.heap[M]? := hblk M hMl (fun e => not_node h.c (by decide) h.made M e.symm rfl)
  have hbel : Below (N + 2) w w2 := ((Below.refl (N + 2) w).alloc (by omega) o).grown hg (by simp; omega) (fun k hk => (hlt k hk).1)
  have hm2 := hmd.trans h.made
  refine ⟨belowCell (p := ⟨M, 1, none⟩) (h.bel.trans (hbel.mono (by omega))) (show N ≤ M by omega) _, ?_, ?_, ?_, ?_, ?_, ?_, h.hM⟩
  · rw [Below.heap_setCell w2 ⟨M, 1, none⟩ _ N (by show N ≠ M; omega), hbel.block N (by omega)]; exact h.box
  · rw [Below.heap_setCell w2 ⟨M, 1, none⟩ _ (N + 1) (by show N + 1 ≠ M; omega), hbel.block (N + 1) (by omega)]; exact h.res
  · exact heapCell_same hm2 1 _
  · exact own_setM ho (by decide) hm2 _ _
  · exact own_setM ((h.k.alloc o).kept hg (own_ne h.k h.c (by decide))) (by decide) hm2 _ _
  · exact own_setM ((h.g.alloc o).kept hg (own_ne h.g h.c (by decide))) (by decide) hm2 _ _
theorem Ln.putK {u w w2 : World} {N M : Nat} {bx : Obj} {n : Nd} {k1 k2 k3 : Nat} {b : Nv} {o : Obj} {ao : Option Addr} {cp : Nat} (h : Ln u w N M bx n k1 k2 k3 b) (hg : (w.alloc o).grownBy w2 (Value.slice b.ka (n.keys.length + k2) b.kc).ownBlock)
    (ho : w2.ownsRow (N + 2) 9 1 (.slice ao (n.keys.length + k2 + 1) cp) (n.keys.length + k2 + 1) (flatK (wK n.keys (k2 + 1)))) :
    Ln u (w2.setCell ⟨M, 2, none⟩ (.slice ao (n.keys.length + k2 + 1) cp)) N M bx n k1 (k2 + 1) k3 { b with ka := ao, kc := cp } := by
  have hMl := (Array.getElem?_eq_some_iff.1 h.made).1
  have hNl := (Array.getElem?_eq_some_iff.1 h.res).1
  have hMN := h.hM
  have hlt := h.k.lt
  have hblk : ∀ x, x < w.heap.size → some x ≠ (Value.slice b.ka (n.keys.length + k2) b.kc).ownBlock → w2.heap[x]? = w.heap[x]? := fun x hx hne => by
    rw [hg.block x (by simp; omega) hne]
    exact heap_alloc_old w o hx
  have hmd : w2.heap[M]? = w.heap[M]? := hblk M hMl (fun e => not_node h.k (by decide) h.made M e.symm rfl)
  have hbel : Below (N + 2) w w2 := ((Below.refl (N + 2) w).alloc (by omega) o).grown hg (by simp; omega) (fun k hk => (hlt k hk).1)
  have hm2 := hmd.trans h.made
  refine ⟨belowCell (p := ⟨M, 2, none⟩) (h.bel.trans (hbel.mono (by omega))) (show N ≤ M by omega) _, ?_, ?_, ?_, ?_, ?_, ?_, h.hM⟩
  · rw [Below.heap_setCell w2 ⟨M, 2, none⟩ _ N (by show N ≠ M; omega), hbel.block N (by omega)]; exact h.box
  · rw [Below.heap_setCell w2 ⟨M, 2, none⟩ _ (N + 1) (by show N + 1 ≠ M; omega), hbel.block (N + 1) (by omega)]; exact h.res
  · exact heapCell_same hm2 2 _
  · exact own_setM ((h.c.alloc o).kept hg (own_ne h.c h.k (by decide))) (by decide) hm2 _ _
  · exact own_setM ho (by decide) hm2 _ _
  · exact own_setM ((h.g.alloc o).kept hg (own_ne h.g h.k (by decide))) (by decide) hm2 _ _
theorem Ln.putG {u w w2 : World} {N M : Nat} {bx : Obj} {n : Nd} {k1 k2 k3 : Nat} {b : Nv} {o : Obj} {ao : Option Addr} {cp : Nat} (h : Ln u w N M bx n k1 k2 k3 b) (hg : (w.alloc o).grownBy w2 (Value.slice b.ga (n.kids.length + k3) b.gc).ownBlock)
    (ho : w2.ownsRow (N + 2) 50 1 (.slice ao (n.kids.length + k3 + 1) cp) (n.kids.length + k3 + 1) (flatG (wG n.kids (k3 + 1)))) :
    Ln u (w2.setCell ⟨M, 3, none⟩ (.slice ao (n.kids.length + k3 + 1) cp)) N M bx n k1 k2 (k3 + 1) { b with ga := ao, gc := cp } := by
  have hMl := (Array.getElem?_eq_some_iff.1 h.made).1
  have hNl := (Array.getElem?_eq_some_iff.1 h.res).1
  have hMN := h.hM
  have hlt := h.g.lt
  have hblk : ∀ x, x < w.heap.size → some x ≠ (Value.slice b.ga (n.kids.length + k3) b.gc).ownBlock → w2.heap[x]? = w.heap[x]? := fun x hx hne => by
    rw [hg.block x (by simp; omega) hne]
    exact heap_alloc_old w o hx
  have hmd : w2.heap[M]? = w.heap[M]? := hblk M hMl (fun e => not_node h.g (by decide) h.made M e.symm rfl)
  have hbel : Below (N + 2) w w2 := ((Below.refl (N + 2) w).alloc (by omega) o).grown hg (by simp; omega) (fun k hk => (hlt k hk).1)
  have hm2 := hmd.trans h.made
  refine ⟨belowCell (p := ⟨M, 3, none⟩) (h.bel.trans (hbel.mono (by omega))) (show N ≤ M by omega) _, ?_, ?_, ?_, ?_, ?_, ?_, h.hM⟩
  · rw [Below.heap_setCell w2 ⟨M, 3, none⟩ _ N (by show N ≠ M; omega), hbel.block N (by omega)]; exact h.box
  · rw [Below.heap_setCell w2 ⟨M, 3, none⟩ _ (N + 1) (by show N + 1 ≠ M; omega), hbel.block (N + 1) (by omega)]; exact h.res
  · exact heapCell_same hm2 3 _
  · exact own_setM ((h.c.alloc o).kept hg (own_ne h.c h.g (by decide))) (by decide) hm2 _ _
  · exact own_setM ((h.k.alloc o).kept hg (own_ne h.k h.g (by decide))) (by decide) hm2 _ _
  · exact own_setM ho (by decide) hm2 _ _
theorem Ln.mid {u w w2 : World} {N M : Nat} {bx : Obj} {n : Nd} {k1 k2 k3 : Nat} {b : Nv} {o : Obj} {r : Option Nat} (h : Ln u w N M bx n k1 k2 k3 b) (hg : (w.alloc o).grownBy w2 r) (hr : ∀ g, r = some g → g ≠ M) :
    w2.heap[M]? = some (.cells #[.bool n.leaf, .slice b.ca (n.cells.length + k1) b.cc, .slice b.ka (n.keys.length + k2) b.kc, .slice b.ga (n.kids.length + k3) b.gc] 26 (0, 0)) := by
  have hMl := (Array.getElem?_eq_some_iff.1 h.made).1
  rw [hg.block M (by simp; omega) (fun e => hr M e.symm rfl), heap_alloc_old w o hMl]
  exact h.made
theorem Ln.sz {u w : World} {N M : Nat} {bx : Obj} {n : Nd} {k1 k2 k3 : Nat} {b : Nv} (h : Ln u w N M bx n k1 k2 k3 b) : N + 2 ≤ w.heap.size := by
  have h1 := (Array.getElem?_eq_some_iff.1 h.made).1
  have h2 := h.hM
  omega
theorem row_free {w : World} {M : Nat} {cs : Array Value} {t : TypeId} (h : w.heap[M]? = some (.cells cs t (0, 0))) (k : Nat) : w.frozen? ⟨M, k, none⟩ = false := by simp [World.frozen?, h]
end Go.Proofs.Ytppmpomfihalfaa
