/- Regions that draw their order, walked by hand. Of no program. -/
import Derived.Test.YtpbifpbblinopaaSh
import Derived.Deep.RegionWith
import Derived.Deep.MidRow
namespace Go.Proofs.Ytpbifpbblinopaa
open Go.RowKit
section
variable {P : Program} {ops : Array Oper} {Q : Exit → Act → World → Prop} {md : Region.Mode}
theorem wanted_none {o : Oper} {ys : Nat → Option Bool} (hg : o.guard = none) : Region.wanted o ys = true := by simp [Region.wanted, hg]
/-- one that yields whatever the world is, is taken first -/
theorem wpAny_take' (i : Nat) (d : Tmp) (v : Value) {oi : Oper} {fuel : Nat} {listed : Array Bool} {a : Act} {w : World} (hi : ops[i]? = some oi) (hd : oi.dst = some d)
    (hs : Region.noSelect ops = true) (hf : Region.free md ops listed i = true) (hr : (Region.ready md ops listed).contains i = true)
    (hQ : ∀ c a w, Q (.panic c) (a.put (some d) v) w → Q (.panic c) a w) (hg : oi.guard = none) (hy : ∀ u, (execOp a.eval oi).run P u = .ok (.value v) u)
    (h : wpAny P md ops Q fuel (listed.setIfInBounds i true) (a.put (some d) v) w) : wpAny P md ops Q (fuel + 1) listed a w :=
  wpAny_take hi hs hf hr (by rw [hd]; exact hQ) (.inl ⟨wanted_none hg, hy⟩) (by rw [hd]; exact h)
theorem wpAny_takeG (i : Nat) (d : Tmp) (v : Value) {oi : Oper} {fuel : Nat} {listed : Array Bool} {a : Act} {w : World} (hi : ops[i]? = some oi) (hd : oi.dst = some d)
    (hs : Region.noSelect ops = true) (hf : Region.free md ops listed i = true) (hr : (Region.ready md ops listed).contains i = true)
    (hQ : ∀ c a w, Q (.panic c) (a.put (some d) v) w → Q (.panic c) a w) (hg : Region.wanted oi (yielded ops a.tmps) = true) (hy : ∀ u, (execOp a.eval oi).run P u = .ok (.value v) u)
    (h : wpAny P md ops Q fuel (listed.setIfInBounds i true) (a.put (some d) v) w) : wpAny P md ops Q (fuel + 1) listed a w :=
  wpAny_take hi hs hf hr (by rw [hd]; exact hQ) (.inl ⟨hg, hy⟩) (by rw [hd]; exact h)
theorem wpAny_oneG {i : Nat} {o : Oper} {fuel : Nat} {listed : Array Bool} {a : Act} {w : World} (hr : Region.ready md ops listed = [i]) (ho : ops[i]? = some o) (hg : Region.wanted o (yielded ops a.tmps) = true)
    (h : ∀ K : Act → World → Prop, (∀ a w, wpAny P md ops Q fuel (listed.setIfInBounds i true) a w → K a w) → Oper.wp P o a w K Q) : wpAny P md ops Q (fuel + 1) listed a w := by
  refine wpAny_ready hr (by simp) (AllReady.cons ho (fun K hK => ?_) AllReady.nil)
  rw [if_pos hg]
  exact h K hK
/-- one alone may come up -/
theorem wpAny_one {i : Nat} {o : Oper} {fuel : Nat} {listed : Array Bool} {a : Act} {w : World} (hr : Region.ready md ops listed = [i]) (ho : ops[i]? = some o) (hg : o.guard = none)
    (h : ∀ K : Act → World → Prop, (∀ a w, wpAny P md ops Q fuel (listed.setIfInBounds i true) a w → K a w) → Oper.wp P o a w K Q) : wpAny P md ops Q (fuel + 1) listed a w := by
  refine wpAny_ready hr (by simp) (AllReady.cons ho (fun K hK => ?_) AllReady.nil)
  rw [if_pos (by simp [Region.wanted, hg])]
  exact h K hK
/-- two that only read: their order is not seen -/
theorem wpAny_pair {i j : Nat} {oi oj : Oper} {vi vj : Value} {fuel : Nat} {listed : Array Bool} {a : Act} {w : World}
    (hr : Region.ready md ops listed = [i, j]) (hri : Region.ready md ops (listed.setIfInBounds i true) = [j]) (hrj : Region.ready md ops (listed.setIfInBounds j true) = [i])
    (hl : (listed.setIfInBounds j true).setIfInBounds i true = (listed.setIfInBounds i true).setIfInBounds j true)
    (hoi : ops[i]? = some oi) (hoj : ops[j]? = some oj) (hgi : oi.guard = none) (hgj : oj.guard = none)
    (di dj : Tmp) (hd : di ≠ dj)
    (hi : ∀ K : Act → World → Prop, K (a.put (some di) vi) w → Oper.wp P oi a w K Q) (hi' : ∀ K : Act → World → Prop, K ((a.put (some dj) vj).put (some di) vi) w → Oper.wp P oi (a.put (some dj) vj) w K Q)
    (hj : ∀ K : Act → World → Prop, K (a.put (some dj) vj) w → Oper.wp P oj a w K Q) (hj' : ∀ K : Act → World → Prop, K ((a.put (some di) vi).put (some dj) vj) w → Oper.wp P oj (a.put (some di) vi) w K Q)
    (h : wpAny P md ops Q fuel ((listed.setIfInBounds i true).setIfInBounds j true) ((a.put (some di) vi).put (some dj) vj) w) : wpAny P md ops Q (fuel + 2) listed a w := by
  have hc : (a.put (some dj) vj).put (some di) vi = (a.put (some di) vi).put (some dj) vj := by
    simp only [Act.put]
    rw [Array.setIfInBounds_comm _ _ (Ne.symm hd)]
  refine wpAny_ready hr (by simp) (AllReady.cons hoi (fun K hK => ?_) (AllReady.cons hoj (fun K hK => ?_) AllReady.nil))
  · rw [if_pos (wanted_none hgi)]
    exact hi K (hK _ _ (wpAny_one hri hoj hgj fun K' hK' => hj' K' (hK' _ _ h)))
  · rw [if_pos (wanted_none hgj)]
    exact hj K (hK _ _ (wpAny_one hrj hoi hgi fun K' hK' => hi' K' (hK' _ _ (by rw [hc, hl]; exact h))))
theorem wp_load_arr {op : Oper} {a : Act} {w : World} {K : Act → World → Prop} (ty : TypeId) (x : Operand) (ho : op.op = .load ty x) (d : Option Tmp) (hd : op.dst = d)
    (b o : Nat) (hx : a.eval x = .pointer (some ⟨b, o, none⟩)) (cs : Array Value) (n : Nat) (el : TypeId) (hc : w.rangeAt b o cs.toList)
    (hu : P.underlying ty = some (.array n el)) (hi : (P.info? ty).map (·.size) = some cs.size)
    (h : K (a.put d (.agg cs)) w) : op.wp P a w K Q :=
  wp_load_mid ty x ho b o hx cs.toList _ hc hu rfl (by simpa using hi) (by rw [hd]; simpa using h)
theorem wp_store_arr {op : Oper} {a : Act} {w : World} {K : Act → World → Prop} (ty : TypeId) (x y : Operand) (ho : op.op = .store ty x y) (hd : op.dst = none)
    (b o : Nat) (cells : Array Value) (hx : a.eval x = .pointer (some ⟨b, o, none⟩)) (hy : a.eval y = .agg cells)
    (ht : w.there b o cells.size) (hi : (P.info? ty).map (·.size) = some cells.size) (h1 : cells.all (·.oneCell') = true)
    (h : K a (w.setCells b o cells.toList)) : op.wp P a w K Q :=
  wp_store_mid ty x y ho b o cells hx hy ht hi h1 (by rw [hd]; exact h)
end
end Go.Proofs.Ytpbifpbblinopaa
