/- Put together out of Xh, Xi. -/
import Derived.Test.YtkcbljmjhlnjpaaQ02
import Derived.Test.YtkcbljmjhlnjpaaQ03
import Derived.Laws.AppendOwnNone
namespace Go.Proofs.Ytkcbljmjhlnjpaa
open Go.RowKit

theorem wp_val {P : Program} {o : Oper} {a : Act} {w : World} {K : Act → World → Prop} {Q : Exit → Act → World → Prop} (v : Value) (hrun : (execOp a.eval o).run P w = .ok (.value v) w) (d : Option Tmp) (hd : o.dst = d) (h : K (a.put d v) w) : o.wp P a w K Q := by
  subst hd
  unfold Oper.wp
  rw [hrun]
  exact h
/-- a call of a function of the program, within a drawn region -/
theorem wp_call_fn {P : Program} {o : Oper} {a : Act} {w : World} {K : Act → World → Prop} {Q : Exit → Act → World → Prop} (F : FuncId) (args : Array Operand) (ats : Array TypeId) (ho : o.op = .call { callee := .value (.func F), args := args, argTypes := ats })
    (xs : Array Value) (hx : args.map a.eval = xs) (hent : ∀ args (w : World), (callFunc F args).run P w = .ok (.enter F args) w) (d : Option Tmp) (hd : o.dst = d) (R : Value → World → Prop)
    (hc : Calls P F xs w fun e w' => ∃ v, e = .returned v ∧ R v w') (h : ∀ v w', R v w' → K (a.put d v) w') : o.wp P a w K Q := by
  subst hd
  have hrun : (execOp a.eval o).run P w = .ok (.enter F xs) w := by
    unfold execOp
    simp only [ho, resolve, Deferred.ofValue, Act.eval, invoke, Sem.run_bind, Sem.run_pure, Result.andThen_ok, hx]
    simpa using hent xs w
  unfold Oper.wp
  rw [hrun, Oper.upon_enter]
  refine hc.mono fun e w'' hh => ?_
  obtain ⟨v, rfl, hr⟩ := hh
  exact h v _ hr
section
variable {P : Program} {ops : Array Oper} {Q : Exit → Act → World → Prop} {md : Region.Mode} {S : World → Prop} {last : Nat}
theorem wpAnyL_two {i j : Nat} {o o' : Oper} {fuel : Nat} {listed : Array Bool} {a : Act} {w : World} (hr : Region.ready md ops listed = [i, j]) (ho : ops[i]? = some o) (ho' : ops[j]? = some o') (hg : Region.wanted o (yielded ops a.tmps) = true) (hg' : Region.wanted o' (yielded ops a.tmps) = true)
    (h : ∀ K : Act → World → Prop, (∀ a w, (i ≠ last → S w) → wpAnyL P md ops Q S last fuel (listed.setIfInBounds i true) a w → K a w) → Oper.wp P o a w K Q)
    (h' : ∀ K : Act → World → Prop, (∀ a w, (j ≠ last → S w) → wpAnyL P md ops Q S last fuel (listed.setIfInBounds j true) a w → K a w) → Oper.wp P o' a w K Q) : wpAnyL P md ops Q S last (fuel + 1) listed a w := by
  refine ⟨fun h0 => absurd (hr ▸ h0) (by simp), ?_⟩
  rw [hr]
  intro k hk
  rcases List.mem_cons.1 hk with rfl | hk
  · refine wpOp_step ho fun K hK => ?_
    rw [if_pos hg]
    exact h K fun a w hs hw => hK a w ⟨hs, hw⟩
  · obtain rfl : k = j := by simpa using hk
    refine wpOp_step ho' fun K hK => ?_
    rw [if_pos hg']
    exact h' K fun a w hs hw => hK a w ⟨hs, hw⟩
end
theorem wp_buildTo {P : Program} {o : Oper} {a : Act} {w : World} {K : Act → World → Prop} {Q : Exit → Act → World → Prop} {t : TypeId} {len : Nat} {parts : Array (Nat × Operand)} (ho : o.op = .buildSlice t len parts)
    (v : Value) (w' : World) (hr : (Instr.buildSlice t len (parts.map fun (i, x) => (i, a.eval x))).run P w = .ok v w') (d : Option Tmp) (hd : o.dst = d) (h : K (a.put d v) w') : o.wp P a w K Q := by
  subst hd
  unfold Oper.wp execOp
  simp only [ho, Sem.run_bind, hr, Result.andThen_ok, Sem.run_pure]
  exact h

/-- a call of a function value, within a drawn region -/
theorem wp_call_val {P : Program} {o : Oper} {a : Act} {w : World} {K : Act → World → Prop} {Q : Exit → Act → World → Prop} (f : Operand) (args : Array Operand) (ats : Array TypeId) (ho : o.op = .call { callee := .value f, args := args, argTypes := ats })
    (F : FuncId) (hf : a.eval f = .func (.func F) #[] #[]) (xs : Array Value) (hx : args.map a.eval = xs) (hent : ∀ args (w : World), (callFunc F args).run P w = .ok (.enter F args) w) (d : Option Tmp) (hd : o.dst = d) (R : Value → World → Prop)
    (hc : Calls P F xs w fun e w' => ∃ v, e = .returned v ∧ R v w') (h : ∀ v w', R v w' → K (a.put d v) w') : o.wp P a w K Q := by
  subst hd
  have hrun : (execOp a.eval o).run P w = .ok (.enter F xs) w := by
    unfold execOp
    simp only [ho, resolve, Deferred.ofValue, hf, invoke, Sem.run_bind, Sem.run_pure, Result.andThen_ok, hx]
    simpa using hent xs w
  unfold Oper.wp
  rw [hrun, Oper.upon_enter]
  refine hc.mono fun e w'' hh => ?_
  obtain ⟨v, rfl, hr⟩ := hh
  exact h v _ hr
/-- dots of one's own -/
def OwnD (w : World) (B : Nat) (l : List (Nat × Nat)) (ao : Option Addr) (c : Nat) : Prop := w.ownsRow B 53 2 (.slice ao l.length c) l.length (flatD l)
section
variable {w w' : World} {B e size : Nat} {v : Value} {n : Nat} {xs : List Value}
theorem own_keep (h : w.ownsRow B e size v n xs) (hk : ∀ g, v.ownBlock = some g → w'.heap[g]? = w.heap[g]?) : w'.ownsRow B e size v n xs := by
  refine ⟨h.1, ?_⟩
  rcases h.2 with hn | ⟨g, cap, cur, rfl, hb, hgg, rest⟩
  · exact .inl hn
  · exact .inr ⟨g, cap, cur, rfl, hb, (hk g rfl).trans hgg, rest⟩
theorem own_down {B' : Nat} (h : w.ownsRow B e size v n xs) (hb : B' ≤ B) : w.ownsRow B' e size v n xs := by
  refine ⟨h.1, ?_⟩
  rcases h.2 with hn | ⟨g, cap, cur, rfl, hb', rest⟩
  · exact .inl hn
  · exact .inr ⟨g, cap, cur, rfl, Nat.le_trans hb hb', rest⟩
theorem own_below (h : w.ownsRow B e size v n xs) (hb : Below w.heap.size w w') : w'.ownsRow B e size v n xs := own_keep h fun g hg => hb.block g (h.lt g hg).2
end
theorem own_lies {w : World} {B size : Nat} {e : TypeId} {ao : Option Addr} {n cp : Nat} {xs : List Value} (h : w.ownsRow B e size (.slice ao n cp) n xs) : Lies w ao xs ∧ n ≤ cp ∧ (ao = none → cp = 0) ∧ ∀ b o, ao = some ⟨b, o, none⟩ → B ≤ b ∧ b < w.heap.size := by
  have hlen := h.1
  rcases h.2 with ⟨hv, hn⟩ | ⟨g, cap, cur, hv, h1, h2, h3, h4, h5, h6⟩
  · cases hv
    exact ⟨fun h0 => by rw [hlen, hn] at h0; simp at h0, Nat.le_refl _, fun _ => rfl, fun b o e => by cases e⟩
  · cases hv
    refine ⟨fun h0 => ⟨g, 0, rfl, fun j x hx => ?_⟩, h3, (fun e => by cases e), (fun b o e => by cases e; exact ⟨h1, (Array.getElem?_eq_some_iff.1 h2).1⟩)⟩
    simp only [World.cell?, h2, Nat.zero_add]
    rw [← h6] at hx
    rw [List.getElem?_take] at hx
    split at hx
    · simpa using hx
    · cases hx
/-- a list of dots behind a slice -/
structure Dv (w : World) (l : List (Nat × Nat)) (ao : Option Addr) (c : Nat) : Prop where
  lies : Lies w ao (flatD l)
  cap : l.length ≤ c
  nil : ao = none → c = 0
theorem Dv.below {w w' : World} {l : List (Nat × Nat)} {ao : Option Addr} {c : Nat} (h : Dv w l ao c) (hb : Below w.heap.size w w') : Dv w' l ao c := ⟨h.lies.below hb, h.cap, h.nil⟩
theorem OwnD.dv {w : World} {B : Nat} {l : List (Nat × Nat)} {ao : Option Addr} {c : Nat} (h : OwnD w B l ao c) : Dv w l ao c := ⟨(own_lies h).1, (own_lies h).2.1, (own_lies h).2.2.1⟩
theorem OwnD.below {w w' : World} {B : Nat} {l : List (Nat × Nat)} {ao : Option Addr} {c : Nat} (h : OwnD w B l ao c) (hb : Below w.heap.size w w') : OwnD w' B l ao c := own_below h hb
/-- append of dots onto dots of one's own -/
theorem run_putD (w : World) (ty : TypeId) (B : Nat) (l m : List (Nat × Nat)) (ao bo : Option Addr) (c d : Nat) (ho : OwnD w B l ao c) (hm : Dv w m bo d) (hl : l.length + m.length ≤ 8796093022208) (hB : B ≤ w.heap.size) :
    ∃ ao' c' w', (Builtin.append_ #[28, 28] ty #[.slice ao l.length c, .slice bo m.length d]).run Try.prog w = .ok (.slice ao' (l ++ m).length c') w' ∧ OwnD w' B (l ++ m) ao' c' ∧ w.grownBy w' (Value.slice ao l.length c).ownBlock ∧ (∀ g o, ao' = some ⟨g, o, none⟩ → (∃ o', ao = some ⟨g, o', none⟩) ∨ w.heap.size ≤ g) := by
  obtain ⟨i, hi, hz, hs, hby⟩ := dot_parts
  cases bo with
  | none =>
    obtain rfl := hm.nil rfl
    obtain rfl : m = [] := List.eq_nil_of_length_eq_zero (by have := hm.cap; omega)
    rw [List.append_nil]
    exact ⟨ao, c, w, run_append_owned_none (P := Try.prog) (w := w) B 28 ty 53 i 2 undD hi _ _ _ ho, ho, World.grownBy.refl _ _, fun g o h => .inl ⟨o, h⟩⟩
  | some ad =>
    obtain ⟨v', w', hr, h2, h3, h4⟩ := W.run_append_own' (P := Try.prog) w B 28 ty 53 i _ 2 16 undD hi hz hs hby rfl (by decide) (.slice ao l.length c) l.length (flatD l) ho ad m.length d (flatD m) (flatD_len m) (fun j u hu => by
      obtain ⟨g, o, he, hr⟩ := hm.lies (by have := (List.getElem?_eq_some_iff.1 hu).1; omega)
      cases he
      rw [Addr.add_mid]
      exact hr j u hu) (flatD_one m) (by unfold maxLen; omega) (by omega) hB
    obtain ⟨ao', c', rfl⟩ := W.owns_shape h2
    rw [← List.length_append, ← flatD_app] at h2
    rw [← List.length_append] at hr
    refine ⟨ao', c', w', hr, h2, h3, fun g o hg => ?_⟩
    subst hg
    rcases h4 with h4 | ⟨g', h4, h5⟩
    · cases ao with
      | none => cases h4
      | some ad =>
        obtain ⟨g1, o1, i1⟩ := ad
        rcases ho.2 with ⟨hv, _⟩ | ⟨g2, cap2, cur2, hv, _⟩
        · simp at hv
        · simp only [Value.slice.injEq, Option.some.injEq] at hv
          rw [hv.1] at h4 ⊢
          cases h4
          exact .inl ⟨0, rfl⟩
    · cases h4
      exact .inr h5
theorem grown_below {w w' : World} {B : Nat} {l : List (Nat × Nat)} {ao : Option Addr} {c : Nat} (ho : OwnD w B l ao c) (hg : w.grownBy w' (Value.slice ao l.length c).ownBlock) (hB : B ≤ w.heap.size) : Below B w w' :=
  (Below.refl B w).grown hg hB (fun k hk => (World.ownsRow.lt ho k hk).1)
theorem wp_putD {o : Oper} {a : Act} {w : World} {K : Act → World → Prop} {Q : Exit → Act → World → Prop} (s x : Operand) (ho : o.op = .call { callee := .builtin .append, args := #[s, x], argTypes := #[28, 28] }) (d : Option Tmp) (hd : o.dst = d)
    (B : Nat) (l m : List (Nat × Nat)) (n1 n2 : Nat) (e1 : n1 = l.length) (e2 : n2 = m.length) (ao bo : Option Addr) (c c2 : Nat) (hs : a.eval s = .slice ao n1 c) (hx : a.eval x = .slice bo n2 c2) (hown : OwnD w B l ao c) (hm : Dv w m bo c2) (hl : l.length + m.length ≤ 8796093022208) (hB : B ≤ w.heap.size)
    (h : ∀ ao' n' c' w', Hid (n' = (l ++ m).length) → Hid (OwnD w' B (l ++ m) ao' c') → Hid (w.grownBy w' (Value.slice ao l.length c).ownBlock) → Hid (Below B w w') → Hid (∀ g o, ao' = some ⟨g, o, none⟩ → (∃ o', ao = some ⟨g, o', none⟩) ∨ w.heap.size ≤ g) → K (a.put d (.slice ao' n' c')) w') : o.wp Try.prog a w K Q := by
  subst hd e1 e2
  obtain ⟨ao', c', w', hr, h1, h2, h3⟩ := run_putD w o.type B l m ao bo c c2 hown hm hl hB
  unfold Oper.wp execOp
  simp only [ho, resolve, invoke, builtin, Sem.run_bind, Sem.run_pure, Result.andThen_ok, List.map_toArray, List.map_cons, List.map_nil, hs, hx, hr]
  exact h ao' _ c' w' rfl h1 h2 (grown_below hown h2 hB) h3
theorem wpList_putD {ops : Array Oper} {rest : List Oper} {o : Oper} {a : Act} {w : World} {Q : Exit → Act → World → Prop} (hgd : o.guard = none) (s x : Operand) (ho : o.op = .call { callee := .builtin .append, args := #[s, x], argTypes := #[28, 28] }) (d : Option Tmp) (hd : o.dst = d)
    (B : Nat) (l m : List (Nat × Nat)) (n1 n2 : Nat) (e1 : n1 = l.length) (e2 : n2 = m.length) (ao bo : Option Addr) (c c2 : Nat) (hs : a.eval s = .slice ao n1 c) (hx : a.eval x = .slice bo n2 c2) (hown : OwnD w B l ao c) (hm : Dv w m bo c2) (hl : l.length + m.length ≤ 8796093022208) (hB : B ≤ w.heap.size)
    (h : ∀ ao' n' c' w', Hid (n' = (l ++ m).length) → Hid (OwnD w' B (l ++ m) ao' c') → Hid (w.grownBy w' (Value.slice ao l.length c).ownBlock) → Hid (Below B w w') → Hid (∀ g o, ao' = some ⟨g, o, none⟩ → (∃ o', ao = some ⟨g, o', none⟩) ∨ w.heap.size ≤ g) → wpList Try.prog ops Q rest (a.put d (.slice ao' n' c')) w') : wpList Try.prog ops Q (o :: rest) a w := by
  subst hd e1 e2
  refine wpList_plain hgd fun K hK => ?_
  obtain ⟨ao', c', w', hr, h1, h2, h3⟩ := run_putD w o.type B l m ao bo c c2 hown hm hl hB
  unfold Oper.wp execOp
  simp only [ho, resolve, invoke, builtin, Sem.run_bind, Sem.run_pure, Result.andThen_ok, List.map_toArray, List.map_cons, List.map_nil, hs, hx, hr]
  exact hK _ _ (h ao' _ c' w' rfl h1 h2 (grown_below hown h2 hB) h3)
theorem bsD (W : World) (x y : Int) : (Instr.buildSlice 28 1 #[(0, .agg #[.int .u32 x, .int .u64 y])]).run Try.prog W = .ok (.slice (some ⟨W.heap.size, 0, none⟩) 1 1) (W.alloc (.cells #[.int .u32 x, .int .u64 y] 53)) := by kernel_rfl
theorem Dv.one (W : World) (d : Nat × Nat) (t : TypeId) : Dv (W.alloc (.cells #[.int .u32 (d.1 : Int), .int .u64 (d.2 : Int)] t)) [d] (some ⟨W.heap.size, 0, none⟩) 1 :=
  ⟨fun _ => ⟨_, 0, rfl, fun j v hv => by
    have h1 : (W.alloc (.cells #[.int .u32 (d.1 : Int), .int .u64 (d.2 : Int)] t)).heap[W.heap.size]? = some (.cells #[.int .u32 (d.1 : Int), .int .u64 (d.2 : Int)] t (0, 0)) := heap_alloc_new _ _
    simp only [World.cell?, h1, Nat.zero_add]
    simpa [flatD, dcs] using hv⟩, by simp, fun e => by cases e⟩
/-- a list without its first -/
theorem tailD (w : World) (q : Nat × Nat) (l : List (Nat × Nat)) (g o c : Nat) (h : Dv w (q :: l) (some ⟨g, o, none⟩) c) : ∃ ao' c', Dv w l ao' c' ∧ ∀ W : World, (Instr.slice 28 (.slice (some ⟨g, o, none⟩) (l.length + 1) c) (some (.int .i64 1)) none none).run Try.prog W = .ok (.slice ao' l.length c') W := by
  have hc := h.cap
  rw [List.length_cons] at hc
  have he : Try.prog.elem 28 = 53 := by kernel_rfl
  refine ⟨if c = 1 then some ⟨g, o, none⟩ else some ⟨g, o + 2, none⟩, c - 1, ⟨fun h0 => ?_, by omega, fun e => by split at e <;> cases e⟩, fun W => ?_⟩
  · rw [flatD_len] at h0
    rw [if_neg (by omega)]
    obtain ⟨g', o', e, hr⟩ := h.lies (by rw [flatD_len]; simp)
    cases e
    refine ⟨g, o + 2, rfl, fun j v hv => ?_⟩
    have := hr (j + 2) v (by
      rw [show flatD (q :: l) = .int .u32 (q.1 : Int) :: .int .u64 (q.2 : Int) :: flatD l from rfl]
      simpa using hv)
    rw [show o + 2 + j = o + (j + 2) by omega]
    exact this
  · rw [run_slice_l W 28 _ _ _ (by rw [he]; exact undD) .i64 1 (by omega) (by omega), he, sizeN (n := 2) (by kernel_rfl)]
    simp only [Result.andThen_ok, sliced, Option.map_some, Addr.add_mid]
    congr 1
end Go.Proofs.Ytkcbljmjhlnjpaa
namespace Go.Proofs.Ytkcbljmjhlnjpaa
open Go.RowKit

def slLen : Value → Nat
  | .slice _ n _ => n
  | _ => 0
theorem entA : ∀ args (w : World), (callFunc 154 args).run Try.prog w = .ok (.enter 154 args) w := by
  intro args w
  go_simp
theorem entL : ∀ args (w : World), (callFunc 155 args).run Try.prog w = .ok (.enter 155 args) w := by
  intro args w
  go_simp
theorem ix0 (g o n c : Nat) (hi : 0 < n) (W : World) : (Instr.indexAt 28 (.slice (some ⟨g, o, none⟩) n c) (.int .i64 0)).run Try.prog W = .ok (.pointer (some ⟨g, o, none⟩)) W := by
  have := ixD g o n c 0 hi W
  simpa using this
theorem Dv.head {w : World} {q : Nat × Nat} {l : List (Nat × Nat)} {ao : Option Addr} {c : Nat} (h : Dv w (q :: l) ao c) : ∃ g o, ao = some ⟨g, o, none⟩ ∧ w.cell? ⟨g, o, none⟩ = some (.int .u32 (q.1 : Int)) ∧ w.cell? ⟨g, o + 1, none⟩ = some (.int .u64 (q.2 : Int)) := by
  obtain ⟨g, o, h1, h2, h3⟩ := h.lies.dt (i := 0) (by simp)
  exact ⟨g, o, h1, by simpa using h2, by simpa using h3⟩
theorem cell_keep {N : Nat} {u W : World} (hN : N = u.heap.size) (hb : Below N u W) {p : Addr} {v : Value} (h : u.cell? p = some v) : W.cell? p = some v := (hb.cell (p := p) (by rw [hN]; exact World.block_lt_of_cell? u _ h)).trans h
theorem mrg_end {a b : List (Nat × Nat)} (h : a.length = 0 ∨ b.length = 0) : V.mrg a b = a ++ b := by
  rcases h with h | h
  · rw [List.eq_nil_of_length_eq_zero h, V.nil_mrg]; rfl
  · rw [List.eq_nil_of_length_eq_zero h, V.mrg_nil, List.append_nil]
set_option maxRecDepth 100000 in
set_option maxHeartbeats 8000000 in
theorem vMerged (a b : List (Nat × Nat)) (aa ba : Option Addr) (ca cb : Nat) (u : World) (ha : Dv u a aa ca) (hb : Dv u b ba cb) (la : a.length ≤ 64) (lb : b.length ≤ 64) :
    Calls Try.prog 153 #[.slice aa a.length ca, .slice ba b.length cb, .func (.func 154) #[] #[], .func (.func 155) #[] #[]] u fun e u' => ∃ ao c, e = .returned (.slice ao (V.mrg a b).length c) ∧ OwnD u' u.heap.size (V.mrg a b) ao c ∧ Below u.heap.size u u' := by
  obtain ⟨N, hN⟩ : ∃ N, N = u.heap.size := ⟨_, rfl⟩
  have HN := hide hN
  rw [← hN]
  have HA := hide ha
  have HB := hide hb
  obtain ⟨i0, hi, hz, hs, hby⟩ := dot_parts
  have HSZ : Hid (∀ W : World, Below N u W → N ≤ W.heap.size) := fun W hW => by rw [hN]; exact hW.size
  obtain ⟨na, hna⟩ : ∃ n, n = a.length := ⟨_, rfl⟩
  obtain ⟨nb, hnb⟩ : ∃ n, n = b.length := ⟨_, rfl⟩
  have HNA := hide hna
  have HNB := hide hnb
  rw [← hna] at la ⊢
  rw [← hnb] at lb ⊢
  have hai : (na : Int) ≤ 64 := by omega
  have hbi : (nb : Int) ≤ 64 := by omega
  have hmix : Try.prog.follows .mixedOrders = true := by kernel_rfl
  clear hN ha hb hna hnb
  go_enter Try.func153, Try.ntmps153
  go_wp2_with (first
    | (at_make; refine wpList_make_own _ (by rfl) (.const (.int .i64 0)) (.tmp 15) 28 (by rfl) N 53 i0 _ 2 undD hi hz hs .i64 .i64 ((na : Int) + (nb : Int)) (na + nb) (by rfl) (by rfl) (by omega) (by rw [hby]; omega) (by unfold maxLen; omega) (by rw [unhide HN]; exact Nat.le_refl _) ?_; intro W1 HO1 HG1; simp only [Act.put, List.setIfInBounds_toArray, List.set_cons_zero, List.set_cons_succ]; have HBl1 : Hid (Below N u W1) := (Below.refl N u).grown HG1 (by rw [unhide HN]; exact Nat.le_refl _) (fun k hk => by cases hk); have HO1' : Hid (OwnD W1 N [] (some ⟨u.heap.size, 0, none⟩) (na + nb)) := HO1; clear HO1 HG1)
    | fail)
  go_loopw [0, 1, 9] (fun s0 s1 s9 wr => ∃ (a' b' acc : List (Nat × Nat)) (xa xb xo : Option Addr) (k1 k2 n3 c1 c2 c3 : Nat), s0 = .slice xa k1 c1 ∧ s1 = .slice xb k2 c2 ∧ s9 = .slice xo n3 c3 ∧ Hid (k1 = a'.length) ∧ Hid (k2 = b'.length) ∧ Hid (n3 = acc.length) ∧ Hid (Dv u a' xa c1) ∧ Hid (Dv u b' xb c2) ∧ Hid (OwnD wr N acc xo c3 ∧ Below N u wr) ∧ Hid (V.mrg a b = acc ++ V.mrg a' b') ∧ Hid (acc.length + a'.length + b'.length ≤ 128)) (fun s0 s1 _ _ => slLen s0 + slLen s1)
  case atStart => exact ⟨a, b, [], aa, ba, _, na, nb, 0, ca, cb, _, rfl, rfl, rfl, HNA, HNB, rfl, HA, HB, ⟨unhide HO1', unhide HBl1⟩, rfl, hide (by have := unhide HNA; have := unhide HNB; simp only [List.length_nil]; omega)⟩
  case round =>
    obtain ⟨a', b', acc, xa, xb, xo, k1, k2, n3, c1, c2, c3, rfl, rfl, rfl, HK1, HK2, HN3, HDA, HDB, HI, HM, HL⟩ := hrel
    clear HA HB HNA HNB hai hbi la lb HO1' HBl1
    have hk1i : (k1 : Int) ≤ 128 := by have := unhide HL; have := unhide HK1; omega
    have hk2i : (k2 : Int) ≤ 128 := by have := unhide HL; have := unhide HK2; omega
    by_cases hz1 : k1 = 0 ∨ k2 = 0
    · have HME : Hid (V.mrg a b = acc ++ a' ++ b') := by
        rw [unhide HM, mrg_end (by rw [← unhide HK1, ← unhide HK2]; exact hz1), List.append_assoc]
        exact rfl
      have HLE : Hid (V.mrg a b = acc ++ a' ++ b' → (acc ++ a').length + b'.length ≤ 8796093022208) := fun _ => by have := unhide HL; rw [List.length_append]; omega
      by_cases hz2 : k1 = 0
      · have hz3 : ¬ (0 : Int) < (k1 : Int) := by omega
        go_wp2_with (first
          | (at_builtin; refine wpList_putD (by rfl) (.tmp 70) (.tmp 71) (by rfl) (some 72) (by rfl) N acc a' n3 k1 (unhide HN3) (unhide HK1) xo xa c3 c1 (by rfl) (by rfl) (unhide HI).1 ((unhide HDA).below (by rw [← unhide HN]; exact (unhide HI).2)) (by have := unhide HL; omega) (unhide HSZ _ (unhide HI).2) ?_; intro ao4 n4 c4 W4 HN4 HO4 HG4 HB4 _; simp only [Act.put, List.setIfInBounds_toArray, List.set_cons_zero, List.set_cons_succ]; have HB4' : Hid (Below N u W4) := (unhide HI).2.trans (unhide HB4); clear HG4 HB4)
          | (at_builtin; refine wpList_putD (by rfl) (.tmp 73) (.tmp 74) (by rfl) (some 75) (by rfl) N (acc ++ a') b' n4 k2 (unhide HN4) (unhide HK2) ao4 xb c4 c2 (by rfl) (by rfl) (unhide HO4) ((unhide HDB).below (by rw [← unhide HN]; exact unhide HB4')) (unhide HLE (unhide HME)) (unhide HSZ _ (unhide HB4')) ?_; intro ao5 n5 c5 W5 HN5 HO5 HG5 HB5 _; simp only [Act.put, List.setIfInBounds_toArray, List.set_cons_zero, List.set_cons_succ]; have HB5' : Hid (Below N u W5) := (unhide HB4').trans (unhide HB5); clear HG5 HB5)
          | fail)
        go_ret
        refine ⟨ao5, c5, ?_, ?_, unhide HB5'⟩
        · rw [unhide HME, ← unhide HN5]; rfl
        · rw [unhide HME]; exact unhide HO5
      · have hz3 : (0 : Int) < (k1 : Int) := by omega
        have hz4 : ¬ (0 : Int) < (k2 : Int) := by omega
        go_wp2_with (first
          | (at_builtin; refine wpList_putD (by rfl) (.tmp 70) (.tmp 71) (by rfl) (some 72) (by rfl) N acc a' n3 k1 (unhide HN3) (unhide HK1) xo xa c3 c1 (by rfl) (by rfl) (unhide HI).1 ((unhide HDA).below (by rw [← unhide HN]; exact (unhide HI).2)) (by have := unhide HL; omega) (unhide HSZ _ (unhide HI).2) ?_; intro ao4 n4 c4 W4 HN4 HO4 HG4 HB4 _; simp only [Act.put, List.setIfInBounds_toArray, List.set_cons_zero, List.set_cons_succ]; have HB4' : Hid (Below N u W4) := (unhide HI).2.trans (unhide HB4); clear HG4 HB4)
          | (at_builtin; refine wpList_putD (by rfl) (.tmp 73) (.tmp 74) (by rfl) (some 75) (by rfl) N (acc ++ a') b' n4 k2 (unhide HN4) (unhide HK2) ao4 xb c4 c2 (by rfl) (by rfl) (unhide HO4) ((unhide HDB).below (by rw [← unhide HN]; exact unhide HB4')) (unhide HLE (unhide HME)) (unhide HSZ _ (unhide HB4')) ?_; intro ao5 n5 c5 W5 HN5 HO5 HG5 HB5 _; simp only [Act.put, List.setIfInBounds_toArray, List.set_cons_zero, List.set_cons_succ]; have HB5' : Hid (Below N u W5) := (unhide HB4').trans (unhide HB5); clear HG5 HB5)
          | fail)
        go_ret
        refine ⟨ao5, c5, ?_, ?_, unhide HB5'⟩
        · rw [unhide HME, ← unhide HN5]; rfl
        · rw [unhide HME]; exact unhide HO5
    · have h1p : (0 : Int) < (k1 : Int) := by omega
      have h2p : (0 : Int) < (k2 : Int) := by omega
      cases a' with
      | nil => exact absurd (unhide HK1) (by simp only [List.length_nil]; omega)
      | cons p al =>
        cases b' with
        | nil => exact absurd (unhide HK2) (by simp only [List.length_nil]; omega)
        | cons q bl =>
          obtain ⟨g, o, hx1, e1, e2⟩ := (unhide HDA).head
          obtain ⟨g2, o2, hx2, f1, f2⟩ := (unhide HDB).head
          subst hx1 hx2
          have hi1 := ix0 g o k1 c1 (by omega)
          have hi2 := ix0 g2 o2 k2 c2 (by omega)
          obtain ⟨t1, d1, hT1, hr1⟩ := tailD u p al g o c1 (unhide HDA)
          obtain ⟨t2, d2, hT2, hr2⟩ := tailD u q bl g2 o2 c2 (unhide HDB)
          have HT1 := hide hT1
          have HT2 := hide hT2
          have HB2 := HDB
          have HA2 := HDA
          obtain ⟨j1, hj1⟩ : ∃ j, j = al.length := ⟨_, rfl⟩
          obtain ⟨j2, hj2⟩ : ∃ j, j = bl.length := ⟨_, rfl⟩
          have HJ1 : Hid (k1 = j1 + 1 ∧ j1 = al.length) := ⟨by rw [hj1]; exact unhide HK1, hj1⟩
          have HJ2 : Hid (k2 = j2 + 1 ∧ j2 = bl.length) := ⟨by rw [hj2]; exact unhide HK2, hj2⟩
          rw [← hj1, ← (unhide HJ1).1] at hr1
          rw [← hj2, ← (unhide HJ2).1] at hr2
          clear hj1 hj2 hT1 hT2 hz1
          have hC1 : ∀ W : World, Below N u W → W.cell? ⟨g, o, none⟩ = some (.int .u32 (p.1 : Int)) ∧ W.cell? ⟨g, o + 1, none⟩ = some (.int .u64 (p.2 : Int)) := fun W hW => ⟨cell_keep (unhide HN) hW e1, cell_keep (unhide HN) hW e2⟩
          have hC2 : ∀ W : World, Below N u W → W.cell? ⟨g2, o2, none⟩ = some (.int .u32 (q.1 : Int)) ∧ W.cell? ⟨g2, o2 + 1, none⟩ = some (.int .u64 (q.2 : Int)) := fun W hW => ⟨cell_keep (unhide HN) hW f1, cell_keep (unhide HN) hW f2⟩
          clear e1 e2 f1 f2
          obtain ⟨pa, pc⟩ := p
          obtain ⟨qa, qc⟩ := q
          have hC1 : ∀ W : World, Below N u W → W.cell? ⟨g, o, none⟩ = some (.int .u32 (pa : Int)) ∧ W.cell? ⟨g, o + 1, none⟩ = some (.int .u64 (pc : Int)) := hC1
          have hC2 : ∀ W : World, Below N u W → W.cell? ⟨g2, o2, none⟩ = some (.int .u32 (qa : Int)) ∧ W.cell? ⟨g2, o2 + 1, none⟩ = some (.int .u64 (qc : Int)) := hC2
          by_cases hlt : pa < qa
          · have HMS : Hid (V.mrg a b = (acc ++ [(pa, pc)]) ++ V.mrg al ((qa, qc) :: bl)) := by
              rw [unhide HM, V.mrg, if_pos (show (pa, pc).1 < (qa, qc).1 from hlt), List.append_assoc]; exact rfl
            have hrr : ordI pa qa = -1 := if_pos hlt
            have HCA : Hid (∀ W : World, Calls Try.prog 154 #[.agg #[.int .u32 (pa : Int), .int .u64 (pc : Int)], .agg #[.int .u32 (qa : Int), .int .u64 (qc : Int)]] W fun e W' => ∃ v, e = .returned v ∧ v = .int .i64 (-1) ∧ Below W.heap.size W W') := fun W => (vByActor (pa, pc) (qa, qc) W).mono fun e W' h => ⟨_, h.1, by rw [← hrr], h.2⟩
            clear hrr
            go_wp2_with fail
            refine wp_region_last (fun W => Below N u W) 8 hmix (belowDrew (unhide HI).2) fun hS => ?_
            have HO0 : Hid (OwnD wr.drew N acc xo c3) := (unhide HI).1
            generalize wr.drew = X0 at hS HO0 ⊢
            refine wpAnyL_take 0 25 (.func (.func 154) #[] #[]) [] rfl rfl (by kernel_rfl) (by kernel_rfl) (by kernel_rfl) (by kernel_rfl) (by kernel_rfl) (fun _ _ _ h => h) (by rfl) (fun u _ => by go_simp) hS ?_
            simp only [Act.put, List.setIfInBounds_toArray, List.set_cons_zero, List.set_cons_succ]
            refine wpAnyL_take 1 26 (.slice (some ⟨g, o, none⟩) k1 c1) [] rfl rfl (by kernel_rfl) (by kernel_rfl) (by kernel_rfl) (by kernel_rfl) (by kernel_rfl) (fun _ _ _ h => h) (by rfl) (fun u _ => by go_simp) hS ?_
            simp only [Act.put, List.setIfInBounds_toArray, List.set_cons_zero, List.set_cons_succ]
            refine wpAnyL_take 2 27 (.pointer (some ⟨g, o, none⟩)) [] rfl rfl (by kernel_rfl) (by kernel_rfl) (by kernel_rfl) (by kernel_rfl) (by kernel_rfl) (fun _ _ _ h => h) (by rfl) (fun u _ => by go_simp) hS ?_
            simp only [Act.put, List.setIfInBounds_toArray, List.set_cons_zero, List.set_cons_succ]
            refine wpAnyL_take 3 28 (.agg #[.int .u32 (pa : Int), .int .u64 (pc : Int)]) [] rfl rfl (by kernel_rfl) (by kernel_rfl) (by kernel_rfl) (by kernel_rfl) (by kernel_rfl) (fun _ _ _ h => h) (by rfl) (fun W hW => by obtain ⟨e1, e2⟩ := hC1 W hW; go_simp) hS ?_
            simp only [Act.put, List.setIfInBounds_toArray, List.set_cons_zero, List.set_cons_succ]
            refine wpAnyL_take 4 29 (.slice (some ⟨g2, o2, none⟩) k2 c2) [] rfl rfl (by kernel_rfl) (by kernel_rfl) (by kernel_rfl) (by kernel_rfl) (by kernel_rfl) (fun _ _ _ h => h) (by rfl) (fun u _ => by go_simp) hS ?_
            simp only [Act.put, List.setIfInBounds_toArray, List.set_cons_zero, List.set_cons_succ]
            refine wpAnyL_take 5 30 (.pointer (some ⟨g2, o2, none⟩)) [] rfl rfl (by kernel_rfl) (by kernel_rfl) (by kernel_rfl) (by kernel_rfl) (by kernel_rfl) (fun _ _ _ h => h) (by rfl) (fun u _ => by go_simp) hS ?_
            simp only [Act.put, List.setIfInBounds_toArray, List.set_cons_zero, List.set_cons_succ]
            refine wpAnyL_take 6 31 (.agg #[.int .u32 (qa : Int), .int .u64 (qc : Int)]) [] rfl rfl (by kernel_rfl) (by kernel_rfl) (by kernel_rfl) (by kernel_rfl) (by kernel_rfl) (fun _ _ _ h => h) (by rfl) (fun W hW => by obtain ⟨e1, e2⟩ := hC2 W hW; go_simp) hS ?_
            simp only [Act.put, List.setIfInBounds_toArray, List.set_cons_zero, List.set_cons_succ]
            refine wpAnyL_one (i := 7) (by kernel_rfl) rfl (by rfl) fun K hK => ?_
            refine wp_call_val (.tmp 25) _ _ (by rfl) 154 (by rfl) #[.agg #[.int .u32 (pa : Int), .int .u64 (pc : Int)], .agg #[.int .u32 (qa : Int), .int .u64 (qc : Int)]] (by with_unfolding_all rfl) entA (some 32) (by rfl) _ (unhide HCA _) ?_
            rintro _ X1 ⟨rfl, hbe⟩
            have HB1 : Hid (Below N u X1) := hS.trans (hbe.mono (unhide HSZ _ hS))
            have HO1 := hide (OwnD.below (unhide HO0) hbe)
            refine hK _ _ (fun _ => unhide HB1) ?_
            clear hK K hbe
            simp only [Act.put, List.setIfInBounds_toArray, List.set_cons_zero, List.set_cons_succ]
            refine wpAnyL_one (i := 8) (by kernel_rfl) rfl (by rfl) fun K hK => ?_
            refine wp_val (.int .i64 (-1)) (by go_simp) (some 10) (by rfl) ?_
            refine hK _ _ (fun _ => unhide HB1) ?_
            clear hK K
            simp only [Act.put, List.setIfInBounds_toArray, List.set_cons_zero, List.set_cons_succ]
            refine wpAnyL_done (by kernel_rfl) ?_ _
            go_wp2_with fail
            refine wp_region_last (fun W => Below N u W) 9 hmix (belowDrew (unhide HB1)) fun hS2 => ?_
            have HO2 : Hid (OwnD X1.drew N acc xo c3) := unhide HO1
            have HBX : Hid (Below N u X1.drew) := belowDrew (unhide HB1)
            generalize X1.drew = X2 at hS2 HO2 HBX ⊢
            have hS := hS2
            refine wpAnyL_take 0 51 (.slice xo n3 c3) [] rfl rfl (by kernel_rfl) (by kernel_rfl) (by kernel_rfl) (by kernel_rfl) (by kernel_rfl) (fun _ _ _ h => h) (by rfl) (fun u _ => by go_simp) hS ?_
            simp only [Act.put, List.setIfInBounds_toArray, List.set_cons_zero, List.set_cons_succ]
            refine wpAnyL_take 1 52 (.slice (some ⟨g, o, none⟩) k1 c1) [] rfl rfl (by kernel_rfl) (by kernel_rfl) (by kernel_rfl) (by kernel_rfl) (by kernel_rfl) (fun _ _ _ h => h) (by rfl) (fun u _ => by go_simp) hS ?_
            simp only [Act.put, List.setIfInBounds_toArray, List.set_cons_zero, List.set_cons_succ]
            refine wpAnyL_take 2 53 (.pointer (some ⟨g, o, none⟩)) [] rfl rfl (by kernel_rfl) (by kernel_rfl) (by kernel_rfl) (by kernel_rfl) (by kernel_rfl) (fun _ _ _ h => h) (by rfl) (fun u _ => by go_simp) hS ?_
            simp only [Act.put, List.setIfInBounds_toArray, List.set_cons_zero, List.set_cons_succ]
            refine wpAnyL_take 3 54 (.agg #[.int .u32 (pa : Int), .int .u64 (pc : Int)]) [] rfl rfl (by kernel_rfl) (by kernel_rfl) (by kernel_rfl) (by kernel_rfl) (by kernel_rfl) (fun _ _ _ h => h) (by rfl) (fun W hW => by obtain ⟨e1, e2⟩ := hC1 W hW; go_simp) hS ?_
            simp only [Act.put, List.setIfInBounds_toArray, List.set_cons_zero, List.set_cons_succ]
            refine wpAnyL_take 6 57 (.slice (some ⟨g, o, none⟩) k1 c1) [] rfl rfl (by kernel_rfl) (by kernel_rfl) (by kernel_rfl) (by kernel_rfl) (by kernel_rfl) (fun _ _ _ h => h) (by rfl) (fun u _ => by go_simp) hS ?_
            simp only [Act.put, List.setIfInBounds_toArray, List.set_cons_zero, List.set_cons_succ]
            refine wpAnyL_take 7 58 (.slice t1 j1 d1) [] rfl rfl (by kernel_rfl) (by kernel_rfl) (by kernel_rfl) (by kernel_rfl) (by kernel_rfl) (fun _ _ _ h => h) (by rfl) (fun u _ => by go_simp) hS ?_
            simp only [Act.put, List.setIfInBounds_toArray, List.set_cons_zero, List.set_cons_succ]
            refine wpAnyL_one (i := 4) (by kernel_rfl) rfl (by rfl) fun K hK => ?_
            refine wp_buildTo (by rfl) _ _ (by simp only [List.map_toArray, List.map_cons, List.map_nil]; exact bsD X2 _ _) (some 55) (by rfl) ?_
            obtain ⟨X3, hw3⟩ : ∃ X, X = X2.alloc (.cells #[.int .u32 (((pa, pc) : Nat × Nat).1 : Int), .int .u64 (((pa, pc) : Nat × Nat).2 : Int)] 53) := ⟨_, rfl⟩
            obtain ⟨B3, hb3⟩ : ∃ X, X = X2.heap.size := ⟨_, rfl⟩
            have hbe : Below X2.heap.size X2 X3 := by rw [hw3]; exact (Below.refl _ _).alloc (Nat.le_refl _) _
            have HB3 : Hid (Below N u X3) := (unhide HBX).trans (hbe.mono (unhide HSZ _ (unhide HBX)))
            have HD3 : Hid (Dv X3 [(pa, pc)] (some ⟨B3, 0, none⟩) 1) := by rw [hw3, hb3]; exact Dv.one _ _ _
            have HO3 := hide (OwnD.below (unhide HO2) hbe)
            refine hK _ _ (fun _ => by rw [show X2.alloc _ = X3 from hw3.symm]; exact unhide HB3) ?_
            rw [show X2.alloc _ = X3 from hw3.symm, ← hb3]
            clear hK K hw3 hb3 hbe
            simp only [Act.put, List.setIfInBounds_toArray, List.set_cons_zero, List.set_cons_succ]
            refine wpAnyL_one (i := 5) (by kernel_rfl) rfl (by rfl) fun K hK => ?_
            refine wp_putD (.tmp 51) (.tmp 55) (by rfl) (some 56) (by rfl) N acc [(pa, pc)] n3 1 (unhide HN3) rfl xo (some ⟨B3, 0, none⟩) c3 1 (by rfl) (by rfl) (unhide HO3) (unhide HD3) (by have := unhide HL; have := unhide HN3; simp only [List.length_cons, List.length_nil]; omega) (unhide HSZ _ (unhide HB3)) ?_
            intro xo4 n4 c4 X4 HN4 HO4 HG4 HBE4 _
            have HB4 : Hid (Below N u X4) := (unhide HB3).trans (unhide HBE4)
            refine hK _ _ (fun _ => unhide HB4) ?_
            clear hK K
            simp only [Act.put, List.setIfInBounds_toArray, List.set_cons_zero, List.set_cons_succ]
            refine wpAnyL_one (i := 8) (by kernel_rfl) rfl (by rfl) fun K hK => ?_
            refine wp_val (.slice xo4 n4 c4) (by go_simp) (some 9) (by rfl) ?_
            refine hK _ _ (fun _ => unhide HB4) ?_
            clear hK K
            simp only [Act.put, List.setIfInBounds_toArray, List.set_cons_zero, List.set_cons_succ]
            refine wpAnyL_one (i := 9) (by kernel_rfl) rfl (by rfl) fun K hK => ?_
            refine wp_val (.slice t1 j1 d1) (by go_simp) (some 0) (by rfl) ?_
            refine hK _ _ (fun _ => unhide HB4) ?_
            clear hK K
            simp only [Act.put, List.setIfInBounds_toArray, List.set_cons_zero]
            refine wpAnyL_done (by kernel_rfl) ?_ _
            go_wp2
            go_roundw
            case rel => exact ⟨al, (qa, qc) :: bl, acc ++ [(pa, pc)], t1, some ⟨g2, o2, none⟩, xo4, j1, k2, n4, d1, c2, c4, rfl, rfl, rfl, (unhide HJ1).2, unhide HK2, unhide HN4, unhide HT1, unhide HB2, ⟨unhide HO4, unhide HB4⟩, unhide HMS, hide (by simp only [List.length_append, List.length_cons, List.length_nil]; have := unhide HL; simp only [List.length_cons] at this; omega)⟩
            case measure => simp [slLen]; have := (unhide HJ1).1; have := (unhide HJ2).1; omega
          · by_cases hgt : qa < pa
            · have HMS : Hid (V.mrg a b = (acc ++ [(qa, qc)]) ++ V.mrg ((pa, pc) :: al) bl) := by
                rw [unhide HM, V.mrg, if_neg (show ¬ (pa, pc).1 < (qa, qc).1 from hlt), if_pos (show (qa, qc).1 < (pa, pc).1 from hgt), List.append_assoc]; exact rfl
              have hrr : ordI pa qa = 1 := by unfold ordI; rw [if_neg hlt, if_pos hgt]
              have HCA : Hid (∀ W : World, Calls Try.prog 154 #[.agg #[.int .u32 (pa : Int), .int .u64 (pc : Int)], .agg #[.int .u32 (qa : Int), .int .u64 (qc : Int)]] W fun e W' => ∃ v, e = .returned v ∧ v = .int .i64 (1) ∧ Below W.heap.size W W') := fun W => (vByActor (pa, pc) (qa, qc) W).mono fun e W' h => ⟨_, h.1, by rw [← hrr], h.2⟩
              clear hrr
              go_wp2_with fail
              refine wp_region_last (fun W => Below N u W) 8 hmix (belowDrew (unhide HI).2) fun hS => ?_
              have HO0 : Hid (OwnD wr.drew N acc xo c3) := (unhide HI).1
              generalize wr.drew = X0 at hS HO0 ⊢
              refine wpAnyL_take 0 25 (.func (.func 154) #[] #[]) [] rfl rfl (by kernel_rfl) (by kernel_rfl) (by kernel_rfl) (by kernel_rfl) (by kernel_rfl) (fun _ _ _ h => h) (by rfl) (fun u _ => by go_simp) hS ?_
              simp only [Act.put, List.setIfInBounds_toArray, List.set_cons_zero, List.set_cons_succ]
              refine wpAnyL_take 1 26 (.slice (some ⟨g, o, none⟩) k1 c1) [] rfl rfl (by kernel_rfl) (by kernel_rfl) (by kernel_rfl) (by kernel_rfl) (by kernel_rfl) (fun _ _ _ h => h) (by rfl) (fun u _ => by go_simp) hS ?_
              simp only [Act.put, List.setIfInBounds_toArray, List.set_cons_zero, List.set_cons_succ]
              refine wpAnyL_take 2 27 (.pointer (some ⟨g, o, none⟩)) [] rfl rfl (by kernel_rfl) (by kernel_rfl) (by kernel_rfl) (by kernel_rfl) (by kernel_rfl) (fun _ _ _ h => h) (by rfl) (fun u _ => by go_simp) hS ?_
              simp only [Act.put, List.setIfInBounds_toArray, List.set_cons_zero, List.set_cons_succ]
              refine wpAnyL_take 3 28 (.agg #[.int .u32 (pa : Int), .int .u64 (pc : Int)]) [] rfl rfl (by kernel_rfl) (by kernel_rfl) (by kernel_rfl) (by kernel_rfl) (by kernel_rfl) (fun _ _ _ h => h) (by rfl) (fun W hW => by obtain ⟨e1, e2⟩ := hC1 W hW; go_simp) hS ?_
              simp only [Act.put, List.setIfInBounds_toArray, List.set_cons_zero, List.set_cons_succ]
              refine wpAnyL_take 4 29 (.slice (some ⟨g2, o2, none⟩) k2 c2) [] rfl rfl (by kernel_rfl) (by kernel_rfl) (by kernel_rfl) (by kernel_rfl) (by kernel_rfl) (fun _ _ _ h => h) (by rfl) (fun u _ => by go_simp) hS ?_
              simp only [Act.put, List.setIfInBounds_toArray, List.set_cons_zero, List.set_cons_succ]
              refine wpAnyL_take 5 30 (.pointer (some ⟨g2, o2, none⟩)) [] rfl rfl (by kernel_rfl) (by kernel_rfl) (by kernel_rfl) (by kernel_rfl) (by kernel_rfl) (fun _ _ _ h => h) (by rfl) (fun u _ => by go_simp) hS ?_
              simp only [Act.put, List.setIfInBounds_toArray, List.set_cons_zero, List.set_cons_succ]
              refine wpAnyL_take 6 31 (.agg #[.int .u32 (qa : Int), .int .u64 (qc : Int)]) [] rfl rfl (by kernel_rfl) (by kernel_rfl) (by kernel_rfl) (by kernel_rfl) (by kernel_rfl) (fun _ _ _ h => h) (by rfl) (fun W hW => by obtain ⟨e1, e2⟩ := hC2 W hW; go_simp) hS ?_
              simp only [Act.put, List.setIfInBounds_toArray, List.set_cons_zero, List.set_cons_succ]
              refine wpAnyL_one (i := 7) (by kernel_rfl) rfl (by rfl) fun K hK => ?_
              refine wp_call_val (.tmp 25) _ _ (by rfl) 154 (by rfl) #[.agg #[.int .u32 (pa : Int), .int .u64 (pc : Int)], .agg #[.int .u32 (qa : Int), .int .u64 (qc : Int)]] (by with_unfolding_all rfl) entA (some 32) (by rfl) _ (unhide HCA _) ?_
              rintro _ X1 ⟨rfl, hbe⟩
              have HB1 : Hid (Below N u X1) := hS.trans (hbe.mono (unhide HSZ _ hS))
              have HO1 := hide (OwnD.below (unhide HO0) hbe)
              refine hK _ _ (fun _ => unhide HB1) ?_
              clear hK K hbe
              simp only [Act.put, List.setIfInBounds_toArray, List.set_cons_zero, List.set_cons_succ]
              refine wpAnyL_one (i := 8) (by kernel_rfl) rfl (by rfl) fun K hK => ?_
              refine wp_val (.int .i64 (1)) (by go_simp) (some 10) (by rfl) ?_
              refine hK _ _ (fun _ => unhide HB1) ?_
              clear hK K
              simp only [Act.put, List.setIfInBounds_toArray, List.set_cons_zero, List.set_cons_succ]
              refine wpAnyL_done (by kernel_rfl) ?_ _
              go_wp2_with fail
              refine wp_region_last (fun W => Below N u W) 9 hmix (belowDrew (unhide HB1)) fun hS2 => ?_
              have HO2 : Hid (OwnD X1.drew N acc xo c3) := unhide HO1
              have HBX : Hid (Below N u X1.drew) := belowDrew (unhide HB1)
              generalize X1.drew = X2 at hS2 HO2 HBX ⊢
              have hS := hS2
              refine wpAnyL_take 0 62 (.slice xo n3 c3) [] rfl rfl (by kernel_rfl) (by kernel_rfl) (by kernel_rfl) (by kernel_rfl) (by kernel_rfl) (fun _ _ _ h => h) (by rfl) (fun u _ => by go_simp) hS ?_
              simp only [Act.put, List.setIfInBounds_toArray, List.set_cons_zero, List.set_cons_succ]
              refine wpAnyL_take 1 63 (.slice (some ⟨g2, o2, none⟩) k2 c2) [] rfl rfl (by kernel_rfl) (by kernel_rfl) (by kernel_rfl) (by kernel_rfl) (by kernel_rfl) (fun _ _ _ h => h) (by rfl) (fun u _ => by go_simp) hS ?_
              simp only [Act.put, List.setIfInBounds_toArray, List.set_cons_zero, List.set_cons_succ]
              refine wpAnyL_take 2 64 (.pointer (some ⟨g2, o2, none⟩)) [] rfl rfl (by kernel_rfl) (by kernel_rfl) (by kernel_rfl) (by kernel_rfl) (by kernel_rfl) (fun _ _ _ h => h) (by rfl) (fun u _ => by go_simp) hS ?_
              simp only [Act.put, List.setIfInBounds_toArray, List.set_cons_zero, List.set_cons_succ]
              refine wpAnyL_take 3 65 (.agg #[.int .u32 (qa : Int), .int .u64 (qc : Int)]) [] rfl rfl (by kernel_rfl) (by kernel_rfl) (by kernel_rfl) (by kernel_rfl) (by kernel_rfl) (fun _ _ _ h => h) (by rfl) (fun W hW => by obtain ⟨e1, e2⟩ := hC2 W hW; go_simp) hS ?_
              simp only [Act.put, List.setIfInBounds_toArray, List.set_cons_zero, List.set_cons_succ]
              refine wpAnyL_take 6 68 (.slice (some ⟨g2, o2, none⟩) k2 c2) [] rfl rfl (by kernel_rfl) (by kernel_rfl) (by kernel_rfl) (by kernel_rfl) (by kernel_rfl) (fun _ _ _ h => h) (by rfl) (fun u _ => by go_simp) hS ?_
              simp only [Act.put, List.setIfInBounds_toArray, List.set_cons_zero, List.set_cons_succ]
              refine wpAnyL_take 7 69 (.slice t2 j2 d2) [] rfl rfl (by kernel_rfl) (by kernel_rfl) (by kernel_rfl) (by kernel_rfl) (by kernel_rfl) (fun _ _ _ h => h) (by rfl) (fun u _ => by go_simp) hS ?_
              simp only [Act.put, List.setIfInBounds_toArray, List.set_cons_zero, List.set_cons_succ]
              refine wpAnyL_one (i := 4) (by kernel_rfl) rfl (by rfl) fun K hK => ?_
              refine wp_buildTo (by rfl) _ _ (by simp only [List.map_toArray, List.map_cons, List.map_nil]; exact bsD X2 _ _) (some 66) (by rfl) ?_
              obtain ⟨X3, hw3⟩ : ∃ X, X = X2.alloc (.cells #[.int .u32 (((qa, qc) : Nat × Nat).1 : Int), .int .u64 (((qa, qc) : Nat × Nat).2 : Int)] 53) := ⟨_, rfl⟩
              obtain ⟨B3, hb3⟩ : ∃ X, X = X2.heap.size := ⟨_, rfl⟩
              have hbe : Below X2.heap.size X2 X3 := by rw [hw3]; exact (Below.refl _ _).alloc (Nat.le_refl _) _
              have HB3 : Hid (Below N u X3) := (unhide HBX).trans (hbe.mono (unhide HSZ _ (unhide HBX)))
              have HD3 : Hid (Dv X3 [(qa, qc)] (some ⟨B3, 0, none⟩) 1) := by rw [hw3, hb3]; exact Dv.one _ _ _
              have HO3 := hide (OwnD.below (unhide HO2) hbe)
              refine hK _ _ (fun _ => by rw [show X2.alloc _ = X3 from hw3.symm]; exact unhide HB3) ?_
              rw [show X2.alloc _ = X3 from hw3.symm, ← hb3]
              clear hK K hw3 hb3 hbe
              simp only [Act.put, List.setIfInBounds_toArray, List.set_cons_zero, List.set_cons_succ]
              refine wpAnyL_one (i := 5) (by kernel_rfl) rfl (by rfl) fun K hK => ?_
              refine wp_putD (.tmp 62) (.tmp 66) (by rfl) (some 67) (by rfl) N acc [(qa, qc)] n3 1 (unhide HN3) rfl xo (some ⟨B3, 0, none⟩) c3 1 (by rfl) (by rfl) (unhide HO3) (unhide HD3) (by have := unhide HL; have := unhide HN3; simp only [List.length_cons, List.length_nil]; omega) (unhide HSZ _ (unhide HB3)) ?_
              intro xo4 n4 c4 X4 HN4 HO4 HG4 HBE4 _
              have HB4 : Hid (Below N u X4) := (unhide HB3).trans (unhide HBE4)
              refine hK _ _ (fun _ => unhide HB4) ?_
              clear hK K
              simp only [Act.put, List.setIfInBounds_toArray, List.set_cons_zero, List.set_cons_succ]
              refine wpAnyL_one (i := 8) (by kernel_rfl) rfl (by rfl) fun K hK => ?_
              refine wp_val (.slice xo4 n4 c4) (by go_simp) (some 9) (by rfl) ?_
              refine hK _ _ (fun _ => unhide HB4) ?_
              clear hK K
              simp only [Act.put, List.setIfInBounds_toArray, List.set_cons_zero, List.set_cons_succ]
              refine wpAnyL_one (i := 9) (by kernel_rfl) rfl (by rfl) fun K hK => ?_
              refine wp_val (.slice t2 j2 d2) (by go_simp) (some 1) (by rfl) ?_
              refine hK _ _ (fun _ => unhide HB4) ?_
              clear hK K
              simp only [Act.put, List.setIfInBounds_toArray, List.set_cons_zero, List.set_cons_succ]
              refine wpAnyL_done (by kernel_rfl) ?_ _
              go_wp2
              go_roundw
              case rel => exact ⟨(pa, pc) :: al, bl, acc ++ [(qa, qc)], some ⟨g, o, none⟩, t2, xo4, k1, j2, n4, c1, d2, c4, rfl, rfl, rfl, unhide HK1, (unhide HJ2).2, unhide HN4, unhide HA2, unhide HT2, ⟨unhide HO4, unhide HB4⟩, unhide HMS, hide (by simp only [List.length_append, List.length_cons, List.length_nil]; have := unhide HL; simp only [List.length_cons] at this; omega)⟩
              case measure => simp [slLen]; have := (unhide HJ1).1; have := (unhide HJ2).1; omega
            · have HMS : Hid (V.mrg a b = (acc ++ [V.later (pa, pc) (qa, qc)]) ++ V.mrg al bl) := by
                rw [unhide HM, V.mrg, if_neg (show ¬ (pa, pc).1 < (qa, qc).1 from hlt), if_neg (show ¬ (qa, qc).1 < (pa, pc).1 from hgt), List.append_assoc]; exact rfl
              have HCL : Hid (∀ W : World, Calls Try.prog 155 #[.agg #[.int .u32 (pa : Int), .int .u64 (pc : Int)], .agg #[.int .u32 (qa : Int), .int .u64 (qc : Int)]] W fun e W' => ∃ v, e = .returned v ∧ v = .agg #[.int .u32 ((V.later (pa, pc) (qa, qc)).1 : Int), .int .u64 ((V.later (pa, pc) (qa, qc)).2 : Int)] ∧ Below W.heap.size W W') := fun W => (vLater (pa, pc) (qa, qc) W).mono fun e W' h => ⟨_, h.1, rfl, h.2⟩
              have hrr : ordI pa qa = 0 := by unfold ordI; rw [if_neg hlt, if_neg hgt]
              have HCA : Hid (∀ W : World, Calls Try.prog 154 #[.agg #[.int .u32 (pa : Int), .int .u64 (pc : Int)], .agg #[.int .u32 (qa : Int), .int .u64 (qc : Int)]] W fun e W' => ∃ v, e = .returned v ∧ v = .int .i64 (0) ∧ Below W.heap.size W W') := fun W => (vByActor (pa, pc) (qa, qc) W).mono fun e W' h => ⟨_, h.1, by rw [← hrr], h.2⟩
              clear hrr
              go_wp2_with fail
              refine wp_region_last (fun W => Below N u W) 8 hmix (belowDrew (unhide HI).2) fun hS => ?_
              have HO0 : Hid (OwnD wr.drew N acc xo c3) := (unhide HI).1
              generalize wr.drew = X0 at hS HO0 ⊢
              refine wpAnyL_take 0 25 (.func (.func 154) #[] #[]) [] rfl rfl (by kernel_rfl) (by kernel_rfl) (by kernel_rfl) (by kernel_rfl) (by kernel_rfl) (fun _ _ _ h => h) (by rfl) (fun u _ => by go_simp) hS ?_
              simp only [Act.put, List.setIfInBounds_toArray, List.set_cons_zero, List.set_cons_succ]
              refine wpAnyL_take 1 26 (.slice (some ⟨g, o, none⟩) k1 c1) [] rfl rfl (by kernel_rfl) (by kernel_rfl) (by kernel_rfl) (by kernel_rfl) (by kernel_rfl) (fun _ _ _ h => h) (by rfl) (fun u _ => by go_simp) hS ?_
              simp only [Act.put, List.setIfInBounds_toArray, List.set_cons_zero, List.set_cons_succ]
              refine wpAnyL_take 2 27 (.pointer (some ⟨g, o, none⟩)) [] rfl rfl (by kernel_rfl) (by kernel_rfl) (by kernel_rfl) (by kernel_rfl) (by kernel_rfl) (fun _ _ _ h => h) (by rfl) (fun u _ => by go_simp) hS ?_
              simp only [Act.put, List.setIfInBounds_toArray, List.set_cons_zero, List.set_cons_succ]
              refine wpAnyL_take 3 28 (.agg #[.int .u32 (pa : Int), .int .u64 (pc : Int)]) [] rfl rfl (by kernel_rfl) (by kernel_rfl) (by kernel_rfl) (by kernel_rfl) (by kernel_rfl) (fun _ _ _ h => h) (by rfl) (fun W hW => by obtain ⟨e1, e2⟩ := hC1 W hW; go_simp) hS ?_
              simp only [Act.put, List.setIfInBounds_toArray, List.set_cons_zero, List.set_cons_succ]
              refine wpAnyL_take 4 29 (.slice (some ⟨g2, o2, none⟩) k2 c2) [] rfl rfl (by kernel_rfl) (by kernel_rfl) (by kernel_rfl) (by kernel_rfl) (by kernel_rfl) (fun _ _ _ h => h) (by rfl) (fun u _ => by go_simp) hS ?_
              simp only [Act.put, List.setIfInBounds_toArray, List.set_cons_zero, List.set_cons_succ]
              refine wpAnyL_take 5 30 (.pointer (some ⟨g2, o2, none⟩)) [] rfl rfl (by kernel_rfl) (by kernel_rfl) (by kernel_rfl) (by kernel_rfl) (by kernel_rfl) (fun _ _ _ h => h) (by rfl) (fun u _ => by go_simp) hS ?_
              simp only [Act.put, List.setIfInBounds_toArray, List.set_cons_zero, List.set_cons_succ]
              refine wpAnyL_take 6 31 (.agg #[.int .u32 (qa : Int), .int .u64 (qc : Int)]) [] rfl rfl (by kernel_rfl) (by kernel_rfl) (by kernel_rfl) (by kernel_rfl) (by kernel_rfl) (fun _ _ _ h => h) (by rfl) (fun W hW => by obtain ⟨e1, e2⟩ := hC2 W hW; go_simp) hS ?_
              simp only [Act.put, List.setIfInBounds_toArray, List.set_cons_zero, List.set_cons_succ]
              refine wpAnyL_one (i := 7) (by kernel_rfl) rfl (by rfl) fun K hK => ?_
              refine wp_call_val (.tmp 25) _ _ (by rfl) 154 (by rfl) #[.agg #[.int .u32 (pa : Int), .int .u64 (pc : Int)], .agg #[.int .u32 (qa : Int), .int .u64 (qc : Int)]] (by with_unfolding_all rfl) entA (some 32) (by rfl) _ (unhide HCA _) ?_
              rintro _ X1 ⟨rfl, hbe⟩
              have HB1 : Hid (Below N u X1) := hS.trans (hbe.mono (unhide HSZ _ hS))
              have HO1 := hide (OwnD.below (unhide HO0) hbe)
              refine hK _ _ (fun _ => unhide HB1) ?_
              clear hK K hbe
              simp only [Act.put, List.setIfInBounds_toArray, List.set_cons_zero, List.set_cons_succ]
              refine wpAnyL_one (i := 8) (by kernel_rfl) rfl (by rfl) fun K hK => ?_
              refine wp_val (.int .i64 (0)) (by go_simp) (some 10) (by rfl) ?_
              refine hK _ _ (fun _ => unhide HB1) ?_
              clear hK K
              simp only [Act.put, List.setIfInBounds_toArray, List.set_cons_zero, List.set_cons_succ]
              refine wpAnyL_done (by kernel_rfl) ?_ _
              go_wp2_with fail
              refine wp_region_last (fun W => Below N u W) 17 hmix (belowDrew (unhide HB1)) fun hS2 => ?_
              have HO2 : Hid (OwnD X1.drew N acc xo c3) := unhide HO1
              have HBX : Hid (Below N u X1.drew) := belowDrew (unhide HB1)
              generalize X1.drew = X2 at hS2 HO2 HBX ⊢
              have hS := hS2
              refine wpAnyL_take 0 33 (.slice xo n3 c3) [] rfl rfl (by kernel_rfl) (by kernel_rfl) (by kernel_rfl) (by kernel_rfl) (by kernel_rfl) (fun _ _ _ h => h) (by rfl) (fun u _ => by go_simp) hS ?_
              simp only [Act.put, List.setIfInBounds_toArray, List.set_cons_zero, List.set_cons_succ]
              refine wpAnyL_take 1 34 (.func (.func 155) #[] #[]) [] rfl rfl (by kernel_rfl) (by kernel_rfl) (by kernel_rfl) (by kernel_rfl) (by kernel_rfl) (fun _ _ _ h => h) (by rfl) (fun u _ => by go_simp) hS ?_
              simp only [Act.put, List.setIfInBounds_toArray, List.set_cons_zero, List.set_cons_succ]
              refine wpAnyL_take 2 35 (.slice (some ⟨g, o, none⟩) k1 c1) [] rfl rfl (by kernel_rfl) (by kernel_rfl) (by kernel_rfl) (by kernel_rfl) (by kernel_rfl) (fun _ _ _ h => h) (by rfl) (fun u _ => by go_simp) hS ?_
              simp only [Act.put, List.setIfInBounds_toArray, List.set_cons_zero, List.set_cons_succ]
              refine wpAnyL_take 3 36 (.pointer (some ⟨g, o, none⟩)) [] rfl rfl (by kernel_rfl) (by kernel_rfl) (by kernel_rfl) (by kernel_rfl) (by kernel_rfl) (fun _ _ _ h => h) (by rfl) (fun u _ => by go_simp) hS ?_
              simp only [Act.put, List.setIfInBounds_toArray, List.set_cons_zero, List.set_cons_succ]
              refine wpAnyL_take 4 37 (.agg #[.int .u32 (pa : Int), .int .u64 (pc : Int)]) [] rfl rfl (by kernel_rfl) (by kernel_rfl) (by kernel_rfl) (by kernel_rfl) (by kernel_rfl) (fun _ _ _ h => h) (by rfl) (fun W hW => by obtain ⟨e1, e2⟩ := hC1 W hW; go_simp) hS ?_
              simp only [Act.put, List.setIfInBounds_toArray, List.set_cons_zero, List.set_cons_succ]
              refine wpAnyL_take 5 38 (.slice (some ⟨g2, o2, none⟩) k2 c2) [] rfl rfl (by kernel_rfl) (by kernel_rfl) (by kernel_rfl) (by kernel_rfl) (by kernel_rfl) (fun _ _ _ h => h) (by rfl) (fun u _ => by go_simp) hS ?_
              simp only [Act.put, List.setIfInBounds_toArray, List.set_cons_zero, List.set_cons_succ]
              refine wpAnyL_take 6 39 (.pointer (some ⟨g2, o2, none⟩)) [] rfl rfl (by kernel_rfl) (by kernel_rfl) (by kernel_rfl) (by kernel_rfl) (by kernel_rfl) (fun _ _ _ h => h) (by rfl) (fun u _ => by go_simp) hS ?_
              simp only [Act.put, List.setIfInBounds_toArray, List.set_cons_zero, List.set_cons_succ]
              refine wpAnyL_take 7 40 (.agg #[.int .u32 (qa : Int), .int .u64 (qc : Int)]) [] rfl rfl (by kernel_rfl) (by kernel_rfl) (by kernel_rfl) (by kernel_rfl) (by kernel_rfl) (fun _ _ _ h => h) (by rfl) (fun W hW => by obtain ⟨e1, e2⟩ := hC2 W hW; go_simp) hS ?_
              simp only [Act.put, List.setIfInBounds_toArray, List.set_cons_zero, List.set_cons_succ]
              refine wpAnyL_take 11 44 (.slice (some ⟨g, o, none⟩) k1 c1) [] rfl rfl (by kernel_rfl) (by kernel_rfl) (by kernel_rfl) (by kernel_rfl) (by kernel_rfl) (fun _ _ _ h => h) (by rfl) (fun u _ => by go_simp) hS ?_
              simp only [Act.put, List.setIfInBounds_toArray, List.set_cons_zero, List.set_cons_succ]
              refine wpAnyL_take 12 45 (.slice t1 j1 d1) [] rfl rfl (by kernel_rfl) (by kernel_rfl) (by kernel_rfl) (by kernel_rfl) (by kernel_rfl) (fun _ _ _ h => h) (by rfl) (fun u _ => by go_simp) hS ?_
              simp only [Act.put, List.setIfInBounds_toArray, List.set_cons_zero, List.set_cons_succ]
              refine wpAnyL_take 13 46 (.slice (some ⟨g2, o2, none⟩) k2 c2) [] rfl rfl (by kernel_rfl) (by kernel_rfl) (by kernel_rfl) (by kernel_rfl) (by kernel_rfl) (fun _ _ _ h => h) (by rfl) (fun u _ => by go_simp) hS ?_
              simp only [Act.put, List.setIfInBounds_toArray, List.set_cons_zero, List.set_cons_succ]
              refine wpAnyL_take 14 47 (.slice t2 j2 d2) [] rfl rfl (by kernel_rfl) (by kernel_rfl) (by kernel_rfl) (by kernel_rfl) (by kernel_rfl) (fun _ _ _ h => h) (by rfl) (fun u _ => by go_simp) hS ?_
              simp only [Act.put, List.setIfInBounds_toArray, List.set_cons_zero, List.set_cons_succ]
              refine wpAnyL_one (i := 8) (by kernel_rfl) rfl (by rfl) fun K hK => ?_
              refine wp_call_val (.tmp 34) _ _ (by rfl) 155 (by rfl) #[.agg #[.int .u32 (pa : Int), .int .u64 (pc : Int)], .agg #[.int .u32 (qa : Int), .int .u64 (qc : Int)]] (by with_unfolding_all rfl) entL (some 41) (by rfl) _ (unhide HCL _) ?_
              rintro _ X5 ⟨rfl, hbe⟩
              have HBX : Hid (Below N u X5) := (unhide HBX).trans (hbe.mono (unhide HSZ _ (unhide HBX)))
              have HO5 := hide (OwnD.below (unhide HO2) hbe)
              refine hK _ _ (fun _ => unhide HBX) ?_
              clear hK K hbe
              simp only [Act.put, List.setIfInBounds_toArray, List.set_cons_zero, List.set_cons_succ]
              refine wpAnyL_one (i := 9) (by kernel_rfl) rfl (by rfl) fun K hK => ?_
              refine wp_buildTo (by rfl) _ _ (by simp only [List.map_toArray, List.map_cons, List.map_nil]; exact bsD X5 _ _) (some 42) (by rfl) ?_
              obtain ⟨X3, hw3⟩ : ∃ X, X = X5.alloc (.cells #[.int .u32 ((V.later (pa, pc) (qa, qc) : Nat × Nat).1 : Int), .int .u64 ((V.later (pa, pc) (qa, qc) : Nat × Nat).2 : Int)] 53) := ⟨_, rfl⟩
              obtain ⟨B3, hb3⟩ : ∃ X, X = X5.heap.size := ⟨_, rfl⟩
              have hbe : Below X5.heap.size X5 X3 := by rw [hw3]; exact (Below.refl _ _).alloc (Nat.le_refl _) _
              have HB3 : Hid (Below N u X3) := (unhide HBX).trans (hbe.mono (unhide HSZ _ (unhide HBX)))
              have HD3 : Hid (Dv X3 [V.later (pa, pc) (qa, qc)] (some ⟨B3, 0, none⟩) 1) := by rw [hw3, hb3]; exact Dv.one _ _ _
              have HO3 := hide (OwnD.below (unhide HO5) hbe)
              refine hK _ _ (fun _ => by rw [show X5.alloc _ = X3 from hw3.symm]; exact unhide HB3) ?_
              rw [show X5.alloc _ = X3 from hw3.symm, ← hb3]
              clear hK K hw3 hb3 hbe
              simp only [Act.put, List.setIfInBounds_toArray, List.set_cons_zero, List.set_cons_succ]
              refine wpAnyL_one (i := 10) (by kernel_rfl) rfl (by rfl) fun K hK => ?_
              refine wp_putD (.tmp 33) (.tmp 42) (by rfl) (some 43) (by rfl) N acc [V.later (pa, pc) (qa, qc)] n3 1 (unhide HN3) rfl xo (some ⟨B3, 0, none⟩) c3 1 (by rfl) (by rfl) (unhide HO3) (unhide HD3) (by have := unhide HL; have := unhide HN3; simp only [List.length_cons, List.length_nil]; omega) (unhide HSZ _ (unhide HB3)) ?_
              intro xo4 n4 c4 X4 HN4 HO4 HG4 HBE4 _
              have HB4 : Hid (Below N u X4) := (unhide HB3).trans (unhide HBE4)
              refine hK _ _ (fun _ => unhide HB4) ?_
              clear hK K
              simp only [Act.put, List.setIfInBounds_toArray, List.set_cons_zero, List.set_cons_succ]
              refine wpAnyL_one (i := 15) (by kernel_rfl) rfl (by rfl) fun K hK => ?_
              refine wp_val (.slice xo4 n4 c4) (by go_simp) (some 9) (by rfl) ?_
              refine hK _ _ (fun _ => unhide HB4) ?_
              clear hK K
              simp only [Act.put, List.setIfInBounds_toArray, List.set_cons_zero, List.set_cons_succ]
              refine wpAnyL_one (i := 16) (by kernel_rfl) rfl (by rfl) fun K hK => ?_
              refine wp_val (.slice t1 j1 d1) (by go_simp) (some 0) (by rfl) ?_
              refine hK _ _ (fun _ => unhide HB4) ?_
              clear hK K
              simp only [Act.put, List.setIfInBounds_toArray, List.set_cons_zero]
              refine wpAnyL_one (i := 17) (by kernel_rfl) rfl (by rfl) fun K hK => ?_
              refine wp_val (.slice t2 j2 d2) (by go_simp) (some 1) (by rfl) ?_
              refine hK _ _ (fun _ => unhide HB4) ?_
              clear hK K
              simp only [Act.put, List.setIfInBounds_toArray, List.set_cons_zero, List.set_cons_succ]
              refine wpAnyL_done (by kernel_rfl) ?_ _
              go_wp2
              go_roundw
              case rel => exact ⟨al, bl, acc ++ [V.later (pa, pc) (qa, qc)], t1, t2, xo4, j1, j2, n4, d1, d2, c4, rfl, rfl, rfl, (unhide HJ1).2, (unhide HJ2).2, unhide HN4, unhide HT1, unhide HT2, ⟨unhide HO4, unhide HB4⟩, unhide HMS, hide (by simp only [List.length_append, List.length_cons, List.length_nil]; have := unhide HL; simp only [List.length_cons] at this; omega)⟩
              case measure => simp [slLen]; have := (unhide HJ1).1; have := (unhide HJ2).1; omega
set_option maxRecDepth 100000 in
theorem vMost (a b : List (Nat × Nat)) (aa ba : Option Addr) (ca cb : Nat) (u : World) (ha : Dv u a aa ca) (hb : Dv u b ba cb) (la : a.length ≤ 64) (lb : b.length ≤ 64) :
    Calls Try.prog 130 #[.slice aa a.length ca, .slice ba b.length cb] u fun e u' => ∃ ao c, e = .returned (.slice ao (V.mrg a b).length c) ∧ OwnD u' u.heap.size (V.mrg a b) ao c ∧ Below u.heap.size u u' := by
  have HM := hide (vMerged a b aa ba ca cb u ha hb la lb)
  clear ha hb
  go_enter Try.func130, Try.ntmps130
  go_wp2_with (first | (go_at_call 153; refine (unhide HM).mono ?_; rintro e w1 ⟨ao, c, rfl, h1, h2⟩; have HZ := hide (And.intro h1 h2); clear h1 h2) | fail)
  go_ret
  exact ⟨ao, c, rfl, (unhide HZ).1, (unhide HZ).2⟩
end Go.Proofs.Ytkcbljmjhlnjpaa
