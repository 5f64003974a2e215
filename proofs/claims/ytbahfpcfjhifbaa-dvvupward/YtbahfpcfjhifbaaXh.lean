/- Vectors: laws on rows of dots that grow, and on operations of a drawn region. -/
import Derived.Test.YtbahfpcfjhifbaaXg
import Derived.Test.YtbahfpcfjhifbaaXw
import Derived.Test.YtbahfpcfjhifbaaLs
import Derived.Laws.AppendOwnNone
namespace Go.Proofs.Ytbahfpcfjhifbaa
open Go.RowKit

theorem wp_val {P : Program} {o : Oper} {a : Act} {w : World} {K : Act → World → Prop} {Q : Exit → Act → World → Prop} (v : Value) (hrun : (execOp a.eval o).run P w = .ok (.value v) w) (d : Option Tmp) (hd : o.dst = d) (h : K (a.put d v) w) : o.wp P a w K Q := by
  subst hd
  unfold Oper.wp
  rw [hrun]
  exact h
/-- a call of a function of the program, within a drawn region -/
theorem wp_call_fn {P : Program} {o : Oper} {a : Act} {w : World} {K : Act → World → Prop} {Q : Exit → Act → World → Prop} (F : FuncId) (args : Array Operand) (ats : Array TypeId) (ho : o.op = .call { callee := .value (.func F), args := args, argTypes := ats })
    (xs : Array Value) (hx : args.map a.eval = xs) (hent : ∀ args (w : World), (callFunc F args).run P w = .ok (.enter F args) w) (d : Option Tmp) (hd : o.dst = d) (R : Value → World → Prop)
    (hc : Calls P F xs w fun e w' => ∃ v, e = .returned v ∧ R v w') (h : ∀ v w', R v w' → K (a.put d v) w') : o.wp P a w K Q := by
  subst hd
  have hrun : (execOp a.eval o).run P w = .ok (.enter F xs) w := by
    unfold execOp
    simp only [ho, resolve, Deferred.ofValue, Act.eval, invoke, Sem.run_bind, Sem.run_pure, Result.andThen_ok, hx]
    simpa using hent xs w
  unfold Oper.wp
  rw [hrun, Oper.upon_enter]
  refine hc.mono fun e w'' hh => ?_
  obtain ⟨v, rfl, hr⟩ := hh
  exact h v _ hr
section
variable {P : Program} {ops : Array Oper} {Q : Exit → Act → World → Prop} {md : Region.Mode} {S : World → Prop} {last : Nat}
theorem wpAnyL_two {i j : Nat} {o o' : Oper} {fuel : Nat} {listed : Array Bool} {a : Act} {w : World} (hr : Region.ready md ops listed = [i, j]) (ho : ops[i]? = some o) (ho' : ops[j]? = some o') (hg : Region.wanted o (yielded ops a.tmps) = true) (hg' : Region.wanted o' (yielded ops a.tmps) = true)
    (h : ∀ K : Act → World → Prop, (∀ a w, (i ≠ last → S w) → wpAnyL P md ops Q S last fuel (listed.setIfInBounds i true) a w → K a w) → Oper.wp P o a w K Q)
    (h' : ∀ K : Act → World → Prop, (∀ a w, (j ≠ last → S w) → wpAnyL P md ops Q S last fuel (listed.setIfInBounds j true) a w → K a w) → Oper.wp P o' a w K Q) : wpAnyL P md ops Q S last (fuel + 1) listed a w := by
  refine ⟨fun h0 => absurd (hr ▸ h0) (by simp), ?_⟩
  rw [hr]
  intro k hk
  rcases List.mem_cons.1 hk with rfl | hk
  · refine wpOp_step ho fun K hK => ?_
    rw [if_pos hg]
    exact h K fun a w hs hw => hK a w ⟨hs, hw⟩
  · obtain rfl : k = j := by simpa using hk
    refine wpOp_step ho' fun K hK => ?_
    rw [if_pos hg']
    exact h' K fun a w hs hw => hK a w ⟨hs, hw⟩
end
theorem wp_buildTo {P : Program} {o : Oper} {a : Act} {w : World} {K : Act → World → Prop} {Q : Exit → Act → World → Prop} {t : TypeId} {len : Nat} {parts : Array (Nat × Operand)} (ho : o.op = .buildSlice t len parts)
    (v : Value) (w' : World) (hr : (Instr.buildSlice t len (parts.map fun (i, x) => (i, a.eval x))).run P w = .ok v w') (d : Option Tmp) (hd : o.dst = d) (h : K (a.put d v) w') : o.wp P a w K Q := by
  subst hd
  unfold Oper.wp execOp
  simp only [ho, Sem.run_bind, hr, Result.andThen_ok, Sem.run_pure]
  exact h

/-- a call of a function value, within a drawn region -/
theorem wp_call_val {P : Program} {o : Oper} {a : Act} {w : World} {K : Act → World → Prop} {Q : Exit → Act → World → Prop} (f : Operand) (args : Array Operand) (ats : Array TypeId) (ho : o.op = .call { callee := .value f, args := args, argTypes := ats })
    (F : FuncId) (hf : a.eval f = .func (.func F) #[] #[]) (xs : Array Value) (hx : args.map a.eval = xs) (hent : ∀ args (w : World), (callFunc F args).run P w = .ok (.enter F args) w) (d : Option Tmp) (hd : o.dst = d) (R : Value → World → Prop)
    (hc : Calls P F xs w fun e w' => ∃ v, e = .returned v ∧ R v w') (h : ∀ v w', R v w' → K (a.put d v) w') : o.wp P a w K Q := by
  subst hd
  have hrun : (execOp a.eval o).run P w = .ok (.enter F xs) w := by
    unfold execOp
    simp only [ho, resolve, Deferred.ofValue, hf, invoke, Sem.run_bind, Sem.run_pure, Result.andThen_ok, hx]
    simpa using hent xs w
  unfold Oper.wp
  rw [hrun, Oper.upon_enter]
  refine hc.mono fun e w'' hh => ?_
  obtain ⟨v, rfl, hr⟩ := hh
  exact h v _ hr
/-- dots of one's own -/
def OwnD (w : World) (B : Nat) (l : List (Nat × Nat)) (ao : Option Addr) (c : Nat) : Prop := w.ownsRow B 43 2 (.slice ao l.length c) l.length (flatD l)
section
variable {w w' : World} {B e size : Nat} {v : Value} {n : Nat} {xs : List Value}
theorem own_keep (h : w.ownsRow B e size v n xs) (hk : ∀ g, v.ownBlock = some g → w'.heap[g]? = w.heap[g]?) : w'.ownsRow B e size v n xs := by
  refine ⟨h.1, ?_⟩
  rcases h.2 with hn | ⟨g, cap, cur, rfl, hb, hgg, rest⟩
  · exact .inl hn
  · exact .inr ⟨g, cap, cur, rfl, hb, (hk g rfl).trans hgg, rest⟩
theorem own_down {B' : Nat} (h : w.ownsRow B e size v n xs) (hb : B' ≤ B) : w.ownsRow B' e size v n xs := by
  refine ⟨h.1, ?_⟩
  rcases h.2 with hn | ⟨g, cap, cur, rfl, hb', rest⟩
  · exact .inl hn
  · exact .inr ⟨g, cap, cur, rfl, Nat.le_trans hb hb', rest⟩
theorem own_below (h : w.ownsRow B e size v n xs) (hb : Below w.heap.size w w') : w'.ownsRow B e size v n xs := own_keep h fun g hg => hb.block g (h.lt g hg).2
end
theorem own_lies {w : World} {B size : Nat} {e : TypeId} {ao : Option Addr} {n cp : Nat} {xs : List Value} (h : w.ownsRow B e size (.slice ao n cp) n xs) : Lies w ao xs ∧ n ≤ cp ∧ (ao = none → cp = 0) ∧ ∀ b o, ao = some ⟨b, o, none⟩ → B ≤ b ∧ b < w.heap.size := by
  have hlen := h.1
  rcases h.2 with ⟨hv, hn⟩ | ⟨g, cap, cur, hv, h1, h2, h3, h4, h5, h6⟩
  · cases hv
    exact ⟨fun h0 => by rw [hlen, hn] at h0; simp at h0, Nat.le_refl _, fun _ => rfl, fun b o e => by cases e⟩
  · cases hv
    refine ⟨fun h0 => ⟨g, 0, rfl, fun j x hx => ?_⟩, h3, (fun e => by cases e), (fun b o e => by cases e; exact ⟨h1, (Array.getElem?_eq_some_iff.1 h2).1⟩)⟩
    simp only [World.cell?, h2, Nat.zero_add]
    rw [← h6] at hx
    rw [List.getElem?_take] at hx
    split at hx
    · simpa using hx
    · cases hx
/-- a list of dots behind a slice -/
structure Dv (w : World) (l : List (Nat × Nat)) (ao : Option Addr) (c : Nat) : Prop where
  lies : Lies w ao (flatD l)
  cap : l.length ≤ c
  nil : ao = none → c = 0
theorem Dv.below {w w' : World} {l : List (Nat × Nat)} {ao : Option Addr} {c : Nat} (h : Dv w l ao c) (hb : Below w.heap.size w w') : Dv w' l ao c := ⟨h.lies.below hb, h.cap, h.nil⟩
theorem OwnD.dv {w : World} {B : Nat} {l : List (Nat × Nat)} {ao : Option Addr} {c : Nat} (h : OwnD w B l ao c) : Dv w l ao c := ⟨(own_lies h).1, (own_lies h).2.1, (own_lies h).2.2.1⟩
theorem OwnD.below {w w' : World} {B : Nat} {l : List (Nat × Nat)} {ao : Option Addr} {c : Nat} (h : OwnD w B l ao c) (hb : Below w.heap.size w w') : OwnD w' B l ao c := own_below h hb
/-- append of dots onto dots of one's own -/
theorem run_putD (w : World) (ty : TypeId) (B : Nat) (l m : List (Nat × Nat)) (ao bo : Option Addr) (c d : Nat) (ho : OwnD w B l ao c) (hm : Dv w m bo d) (hl : l.length + m.length ≤ 8796093022208) (hB : B ≤ w.heap.size) :
    ∃ ao' c' w', (Builtin.append_ #[22, 22] ty #[.slice ao l.length c, .slice bo m.length d]).run Try.prog w = .ok (.slice ao' (l ++ m).length c') w' ∧ OwnD w' B (l ++ m) ao' c' ∧ w.grownBy w' (Value.slice ao l.length c).ownBlock ∧ (∀ g o, ao' = some ⟨g, o, none⟩ → (∃ o', ao = some ⟨g, o', none⟩) ∨ w.heap.size ≤ g) := by
  obtain ⟨i, hi, hz, hs, hby⟩ := dot_parts
  cases bo with
  | none =>
    obtain rfl := hm.nil rfl
    obtain rfl : m = [] := List.eq_nil_of_length_eq_zero (by have := hm.cap; omega)
    rw [List.append_nil]
    exact ⟨ao, c, w, run_append_owned_none (P := Try.prog) (w := w) B 22 ty 43 i 2 undD hi _ _ _ ho, ho, World.grownBy.refl _ _, fun g o h => .inl ⟨o, h⟩⟩
  | some ad =>
    obtain ⟨v', w', hr, h2, h3, h4⟩ := W.run_append_own' (P := Try.prog) w B 22 ty 43 i _ 2 16 undD hi hz hs hby rfl (by decide) (.slice ao l.length c) l.length (flatD l) ho ad m.length d (flatD m) (flatD_len m) (fun j u hu => by
      obtain ⟨g, o, he, hr⟩ := hm.lies (by have := (List.getElem?_eq_some_iff.1 hu).1; omega)
      cases he
      rw [Addr.add_mid]
      exact hr j u hu) (flatD_one m) (by unfold maxLen; omega) (by omega) hB
    obtain ⟨ao', c', rfl⟩ := W.owns_shape h2
    rw [← List.length_append, ← flatD_app] at h2
    rw [← List.length_append] at hr
    refine ⟨ao', c', w', hr, h2, h3, fun g o hg => ?_⟩
    subst hg
    rcases h4 with h4 | ⟨g', h4, h5⟩
    · cases ao with
      | none => cases h4
      | some ad =>
        obtain ⟨g1, o1, i1⟩ := ad
        rcases ho.2 with ⟨hv, _⟩ | ⟨g2, cap2, cur2, hv, _⟩
        · simp at hv
        · simp only [Value.slice.injEq, Option.some.injEq] at hv
          rw [hv.1] at h4 ⊢
          cases h4
          exact .inl ⟨0, rfl⟩
    · cases h4
      exact .inr h5
theorem grown_below {w w' : World} {B : Nat} {l : List (Nat × Nat)} {ao : Option Addr} {c : Nat} (ho : OwnD w B l ao c) (hg : w.grownBy w' (Value.slice ao l.length c).ownBlock) (hB : B ≤ w.heap.size) : Below B w w' :=
  (Below.refl B w).grown hg hB (fun k hk => (World.ownsRow.lt ho k hk).1)
theorem wp_putD {o : Oper} {a : Act} {w : World} {K : Act → World → Prop} {Q : Exit → Act → World → Prop} (s x : Operand) (ho : o.op = .call { callee := .builtin .append, args := #[s, x], argTypes := #[22, 22] }) (d : Option Tmp) (hd : o.dst = d)
    (B : Nat) (l m : List (Nat × Nat)) (n1 n2 : Nat) (e1 : n1 = l.length) (e2 : n2 = m.length) (ao bo : Option Addr) (c c2 : Nat) (hs : a.eval s = .slice ao n1 c) (hx : a.eval x = .slice bo n2 c2) (hown : OwnD w B l ao c) (hm : Dv w m bo c2) (hl : l.length + m.length ≤ 8796093022208) (hB : B ≤ w.heap.size)
    (h : ∀ ao' n' c' w', Hid (n' = (l ++ m).length) → Hid (OwnD w' B (l ++ m) ao' c') → Hid (w.grownBy w' (Value.slice ao l.length c).ownBlock) → Hid (Below B w w') → Hid (∀ g o, ao' = some ⟨g, o, none⟩ → (∃ o', ao = some ⟨g, o', none⟩) ∨ w.heap.size ≤ g) → K (a.put d (.slice ao' n' c')) w') : o.wp Try.prog a w K Q := by
  subst hd e1 e2
  obtain ⟨ao', c', w', hr, h1, h2, h3⟩ := run_putD w o.type B l m ao bo c c2 hown hm hl hB
  unfold Oper.wp execOp
  simp only [ho, resolve, invoke, builtin, Sem.run_bind, Sem.run_pure, Result.andThen_ok, List.map_toArray, List.map_cons, List.map_nil, hs, hx, hr]
  exact h ao' _ c' w' rfl h1 h2 (grown_below hown h2 hB) h3
theorem wpList_putD {ops : Array Oper} {rest : List Oper} {o : Oper} {a : Act} {w : World} {Q : Exit → Act → World → Prop} (hgd : o.guard = none) (s x : Operand) (ho : o.op = .call { callee := .builtin .append, args := #[s, x], argTypes := #[22, 22] }) (d : Option Tmp) (hd : o.dst = d)
    (B : Nat) (l m : List (Nat × Nat)) (n1 n2 : Nat) (e1 : n1 = l.length) (e2 : n2 = m.length) (ao bo : Option Addr) (c c2 : Nat) (hs : a.eval s = .slice ao n1 c) (hx : a.eval x = .slice bo n2 c2) (hown : OwnD w B l ao c) (hm : Dv w m bo c2) (hl : l.length + m.length ≤ 8796093022208) (hB : B ≤ w.heap.size)
    (h : ∀ ao' n' c' w', Hid (n' = (l ++ m).length) → Hid (OwnD w' B (l ++ m) ao' c') → Hid (w.grownBy w' (Value.slice ao l.length c).ownBlock) → Hid (Below B w w') → Hid (∀ g o, ao' = some ⟨g, o, none⟩ → (∃ o', ao = some ⟨g, o', none⟩) ∨ w.heap.size ≤ g) → wpList Try.prog ops Q rest (a.put d (.slice ao' n' c')) w') : wpList Try.prog ops Q (o :: rest) a w := by
  subst hd e1 e2
  refine wpList_plain hgd fun K hK => ?_
  obtain ⟨ao', c', w', hr, h1, h2, h3⟩ := run_putD w o.type B l m ao bo c c2 hown hm hl hB
  unfold Oper.wp execOp
  simp only [ho, resolve, invoke, builtin, Sem.run_bind, Sem.run_pure, Result.andThen_ok, List.map_toArray, List.map_cons, List.map_nil, hs, hx, hr]
  exact hK _ _ (h ao' _ c' w' rfl h1 h2 (grown_below hown h2 hB) h3)
theorem bsD (W : World) (x y : Int) : (Instr.buildSlice 22 1 #[(0, .agg #[.int .u32 x, .int .u64 y])]).run Try.prog W = .ok (.slice (some ⟨W.heap.size, 0, none⟩) 1 1) (W.alloc (.cells #[.int .u32 x, .int .u64 y] 43)) := by kernel_rfl
theorem Dv.one (W : World) (d : Nat × Nat) (t : TypeId) : Dv (W.alloc (.cells #[.int .u32 (d.1 : Int), .int .u64 (d.2 : Int)] t)) [d] (some ⟨W.heap.size, 0, none⟩) 1 :=
  ⟨fun _ => ⟨_, 0, rfl, fun j v hv => by
    have h1 : (W.alloc (.cells #[.int .u32 (d.1 : Int), .int .u64 (d.2 : Int)] t)).heap[W.heap.size]? = some (.cells #[.int .u32 (d.1 : Int), .int .u64 (d.2 : Int)] t (0, 0)) := heap_alloc_new _ _
    simp only [World.cell?, h1, Nat.zero_add]
    simpa [flatD, dcs] using hv⟩, by simp, fun e => by cases e⟩
/-- a list without its first -/
theorem tailD (w : World) (q : Nat × Nat) (l : List (Nat × Nat)) (g o c : Nat) (h : Dv w (q :: l) (some ⟨g, o, none⟩) c) : ∃ ao' c', Dv w l ao' c' ∧ ∀ W : World, (Instr.slice 22 (.slice (some ⟨g, o, none⟩) (l.length + 1) c) (some (.int .i64 1)) none none).run Try.prog W = .ok (.slice ao' l.length c') W := by
  have hc := h.cap
  rw [List.length_cons] at hc
  have he : Try.prog.elem 22 = 43 := by kernel_rfl
  refine ⟨if c = 1 then some ⟨g, o, none⟩ else some ⟨g, o + 2, none⟩, c - 1, ⟨fun h0 => ?_, by omega, fun e => by split at e <;> cases e⟩, fun W => ?_⟩
  · rw [flatD_len] at h0
    rw [if_neg (by omega)]
    obtain ⟨g', o', e, hr⟩ := h.lies (by rw [flatD_len]; simp)
    cases e
    refine ⟨g, o + 2, rfl, fun j v hv => ?_⟩
    have := hr (j + 2) v (by
      rw [show flatD (q :: l) = .int .u32 (q.1 : Int) :: .int .u64 (q.2 : Int) :: flatD l from rfl]
      simpa using hv)
    rw [show o + 2 + j = o + (j + 2) by omega]
    exact this
  · rw [run_slice_l W 22 _ _ _ (by rw [he]; exact undD) .i64 1 (by omega) (by omega), he, sizeN (n := 2) (by kernel_rfl)]
    simp only [Result.andThen_ok, sliced, Option.map_some, Addr.add_mid]
    congr 1
end Go.Proofs.Ytbahfpcfjhifbaa
