/- Nodes: what again wants: calls of function values, nodes and boxes that are kept. -/
import Derived.Test.YtppmpomfihalfaaNsf
import Derived.Test.YtppmpomfihalfaaNrz
namespace Go.Proofs.Ytppmpomfihalfaa
open Go.RowKit

theorem wpList_callv {P : Program} {ops : Array Oper} {rest : List Oper} {o : Oper} {a : Act} {w : World} {Q : Exit → Act → World → Prop} (hgd : o.guard = none) (f x : Operand) (ats : Array TypeId) (ho : o.op = .call { callee := .value f, args := #[x], argTypes := ats })
    (F : FuncId) (caps : Array Value) (hf : a.eval f = .func (.func F) #[] caps) (xv : Value) (hx : a.eval x = xv) (hent : ∀ args (w : World), (callFunc F args).run P w = .ok (.enter F args) w) (d : Option Tmp) (hd : o.dst = d) (R : Value → World → Prop)
    (hc : Calls P F (#[xv] ++ caps) w fun e w' => ∃ v, e = .returned v ∧ R v w') (h : ∀ v w', R v w' → wpList P ops Q rest (a.put d v) w') : wpList P ops Q (o :: rest) a w := by
  refine wpList_plain hgd fun K hK => ?_
  subst hd
  have hrun : (execOp a.eval o).run P w = .ok (.enter F (#[xv] ++ caps)) w := by
    unfold execOp
    simp only [ho, resolve, Deferred.ofValue, hf, invoke, Sem.run_bind, Sem.run_pure, Result.andThen_ok, List.map_toArray, List.map_cons, List.map_nil, hx]
    simpa using hent (#[xv] ++ caps) w
  unfold Oper.wp
  rw [hrun, Oper.upon_enter]
  refine hc.mono fun e w'' hh => ?_
  obtain ⟨v, rfl, hr⟩ := hh
  exact hK _ _ (h v _ hr)
/-- a node that may be read, copied and written over -/
def Nd.Fine (m : Nd) : Prop := m.Few ∧ (∀ k ∈ m.kids, k < 4294967296) ∧ ∀ c ∈ m.cells, c.key.size ≤ 140737488355328 ∧ c.val.size ≤ 140737488355328
theorem Ow.at' {w : World} {B : Nat} {m : Nd} {x : Nv} (h : Ow w B m.cells m.keys m.kids x) (hf : m.Fine) : NdAt w m x := by
  have h1 := own_liesS h.c
  have h2 := own_liesS h.k
  have h3 := own_liesS h.g
  have f1 := hf.1.1
  have f2 := hf.1.2.1
  have f3 := hf.1.2.2
  exact ⟨h1.1, h2.1, h3.1, hf.2.1, ⟨by omega, by omega, by omega⟩, hf.2.2, ⟨h1.2.1, h2.2.1, h3.2.1⟩⟩
theorem Ow.below {w w' : World} {B : Nat} {cs : List Cl} {ks : List ByteArray} {gs : List Nat} {x : Nv} (h : Ow w B cs ks gs x) (hb : Below w.heap.size w w') : Ow w' B cs ks gs x :=
  ⟨own_keep h.c (fun g hg => hb.block g (h.c.lt g hg).2), own_keep h.k (fun g hg => hb.block g (h.k.lt g hg).2), own_keep h.g (fun g hg => hb.block g (h.g.lt g hg).2)⟩
theorem own_at {w : World} {B e size : Nat} {ao : Option Addr} {n cp g o : Nat} {xs : List Value} (h : w.ownsRow B e size (.slice ao n cp) n xs) (ha : ao = some ⟨g, o, none⟩) : (Value.slice ao n cp).ownBlock = some g := by subst ha; rfl
theorem Ow.blk {w : World} {B : Nat} {cs : List Cl} {ks : List ByteArray} {gs : List Nat} {x : Nv} (h : Ow w B cs ks gs x) : ∀ g, x.blk g → (B ≤ g ∧ g < w.heap.size) ∧ ∀ c fr, w.heap[g]? ≠ some (.cells c 26 fr) := by
  intro g hg
  rcases hg with ⟨o, e⟩ | ⟨o, e⟩ | ⟨o, e⟩
  · have ho := own_at h.c e
    exact ⟨h.c.lt g ho, fun c fr hx => not_node h.c (by decide) hx g ho rfl⟩
  · have ho := own_at h.k e
    exact ⟨h.k.lt g ho, fun c fr hx => not_node h.k (by decide) hx g ho rfl⟩
  · have ho := own_at h.g e
    exact ⟨h.g.lt g ho, fun c fr hx => not_node h.g (by decide) hx g ho rfl⟩
theorem Ow.upb {w w' : World} {B : Nat} {cs : List Cl} {ks : List ByteArray} {gs : List Nat} {x y : Nv} (h : Ow w B cs ks gs x) (hu : Upb w w' y) (hd : ∀ g, x.blk g → ¬ y.blk g) : Ow w' B cs ks gs x :=
  ⟨own_keep h.c (fun g hg => hu.block g (h.c.lt g hg).2 (hd g (.inl ⟨0, own_blk h.c hg⟩))), own_keep h.k (fun g hg => hu.block g (h.k.lt g hg).2 (hd g (.inr (.inl ⟨0, own_blk h.k hg⟩)))), own_keep h.g (fun g hg => hu.block g (h.g.lt g hg).2 (hd g (.inr (.inr ⟨0, own_blk h.g hg⟩))))⟩
theorem Lies.upb {w w' : World} {ao : Option Addr} {xs : List Value} {y : Nv} (h : Lies w ao xs) (hu : Upb w w' y) (hd : ∀ g o, ao = some ⟨g, o, none⟩ → ¬ y.blk g) : Lies w' ao xs := fun h0 => by
  obtain ⟨g, o, e, hr⟩ := h h0
  refine ⟨g, o, e, fun j v hv => ?_⟩
  have hc := hr j v hv
  rw [World.cell?_of_block (hu.block g (World.block_lt_of_cell? w _ hc) (hd g o e))]
  exact hc
theorem NdAt.upb {w w' : World} {m : Nd} {x y : Nv} (h : NdAt w m x) (hu : Upb w w' y) (hd : ∀ g, x.blk g → ¬ y.blk g) : NdAt w' m x :=
  ⟨h.cells.upb hu (fun g o e => hd g (.inl ⟨o, e⟩)), h.keys.upb hu (fun g o e => hd g (.inr (.inl ⟨o, e⟩))), h.kids.upb hu (fun g o e => hd g (.inr (.inr ⟨o, e⟩))), h.kid, h.len, h.str, h.cap⟩
/-- boxes and nodes that are kept -/
structure Kept (u w : World) (N : Nat) (L : List (Nat × Array Value)) (K : List (Nd × Nv)) : Prop where
  bel : Below N u w
  hN : N ≤ w.heap.size
  bx : ∀ p ∈ L, w.heap[p.1]? = some (.cells p.2 26 (0, 0))
  nd : ∀ p ∈ K, NdAt w p.1 p.2
section
variable {u w w' : World} {N : Nat} {L : List (Nat × Array Value)} {K : List (Nd × Nv)}
theorem Kept.below (h : Kept u w N L K) (hb : Below w.heap.size w w') : Kept u w' N L K :=
  ⟨h.bel.trans (hb.mono h.hN), Nat.le_trans h.hN hb.size, fun p hp => box_below (h.bx p hp) hb, fun p hp => (h.nd p hp).below hb⟩
theorem Kept.box (h : Kept u w N L K) {M : Nat} {b : Array Value} (hb : w.heap[M]? = some (.cells b 26 (0, 0))) : Kept u w N ((M, b) :: L) K :=
  ⟨h.bel, h.hN, fun p hp => by
    rcases List.mem_cons.1 hp with rfl | hp
    · exact hb
    · exact h.bx p hp, h.nd⟩
theorem Kept.node (h : Kept u w N L K) {m : Nd} {x : Nv} (hx : NdAt w m x) : Kept u w N L ((m, x) :: K) :=
  ⟨h.bel, h.hN, h.bx, fun p hp => by
    rcases List.mem_cons.1 hp with rfl | hp
    · exact hx
    · exact h.nd p hp⟩
theorem Kept.upb (h : Kept u w N L K) {y : Nv} (hu : Upb w w' y) (hy : ∀ g, y.blk g → N ≤ g ∧ ∀ c fr, w.heap[g]? ≠ some (.cells c 26 fr)) (hd : ∀ p ∈ K, ∀ g, p.2.blk g → ¬ y.blk g) : Kept u w' N L K :=
  ⟨h.bel.trans (hu.below (fun g hg => (hy g hg).1) h.hN), Nat.le_trans h.hN hu.size, fun p hp => (hu.block p.1 (Array.getElem?_eq_some_iff.1 (h.bx p hp)).1 (fun hb => (hy p.1 hb).2 _ _ (h.bx p hp))).trans (h.bx p hp), fun p hp => (h.nd p hp).upb hu (hd p hp)⟩
theorem Kept.at_ (h : Kept u w N L K) {M : Nat} {b : Array Value} (hm : (M, b) ∈ L) : w.heap[M]? = some (.cells b 26 (0, 0)) := h.bx _ hm
theorem Kept.nd_ (h : Kept u w N L K) {m : Nd} {x : Nv} (hm : (m, x) ∈ K) : NdAt w m x := h.nd _ hm
end
end Go.Proofs.Ytppmpomfihalfaa
