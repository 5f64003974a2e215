/- Segments: entries in memory; Valid of both sides. Written by mksge.py. -/
import Derived.Test.YtopabadnbelegaaQSgc
namespace Go.Proofs.Ytopabadnbelegaa.S
open Go.RowKit Go.Lib
section
variable {P : Program} {ops : Array Oper} {Q : Exit → Act → World → Prop} {md : Region.Mode} {S : World → Prop} {last : Nat}
/-- take number i first, which is not wanted -/
theorem wpAnyL_skip (i : Nat) (d : Tmp) (r : List Nat) {oi : Oper} {fuel : Nat} {listed : Array Bool} {a : Act} {w : World} (hi : ops[i]? = some oi) (hd : oi.dst = some d)
    (hs : Region.noSelect ops = true) (hf : Region.free md ops listed i = true) (hr : (Region.ready md ops listed).contains i = true) (hc : chained md ops last i r = true) (hu : (r.all fun y => !listed.getD y true) = true)
    (hQ : ∀ c a w, Q (.panic c) (a.put (some d) undef) w → Q (.panic c) a w) (hg : Region.wanted oi (yielded ops a.tmps) = false) (hS : S w)
    (h : wpAnyL P md ops Q S last fuel (listed.setIfInBounds i true) (a.put (some d) undef) w) : wpAnyL P md ops Q S last (fuel + 1) listed a w := by
  have hu' : unlisted listed r := by
    clear hc
    induction r with
    | nil => trivial
    | cons y r ih =>
      simp only [List.all_cons, Bool.and_eq_true, Bool.not_eq_true'] at hu
      exact ⟨hu.1, ih hu.2⟩
  exact wpAnyL_first hi (Region.noSelect_spec hs) (by rw [hd]; exact hQ) r hc fuel listed a w hu' (Region.free_spec hi hf) (by simpa using hr) (.inr ⟨hg, rfl⟩) hS (by rw [hd]; exact h)
theorem wpAnyL_two {i j : Nat} {o o' : Oper} {fuel : Nat} {listed : Array Bool} {a : Act} {w : World} (hr : Region.ready md ops listed = [i, j]) (ho : ops[i]? = some o) (ho' : ops[j]? = some o') (hg : Region.wanted o (yielded ops a.tmps) = true) (hg' : Region.wanted o' (yielded ops a.tmps) = true)
    (h : ∀ K : Act → World → Prop, (∀ a w, (i ≠ last → S w) → wpAnyL P md ops Q S last fuel (listed.setIfInBounds i true) a w → K a w) → Oper.wp P o a w K Q)
    (h' : ∀ K : Act → World → Prop, (∀ a w, (j ≠ last → S w) → wpAnyL P md ops Q S last fuel (listed.setIfInBounds j true) a w → K a w) → Oper.wp P o' a w K Q) : wpAnyL P md ops Q S last (fuel + 1) listed a w := by
  refine ⟨fun h0 => absurd (hr ▸ h0) (by simp), ?_⟩
  rw [hr]
  intro k hk
  rcases List.mem_cons.1 hk with rfl | hk
  · refine wpOp_step ho fun K hK => ?_
    rw [if_pos hg]
    exact h K fun a w hs hw => hK a w ⟨hs, hw⟩
  · obtain rfl : k = j := by simpa using hk
    refine wpOp_step ho' fun K hK => ?_
    rw [if_pos hg']
    exact h' K fun a w hs hw => hK a w ⟨hs, hw⟩
end
theorem wp_buildTo {P : Program} {o : Oper} {a : Act} {w : World} {K : Act → World → Prop} {Q : Exit → Act → World → Prop} {t : TypeId} {len : Nat} {parts : Array (Nat × Operand)} (ho : o.op = .buildSlice t len parts)
    (v : Value) (w' : World) (hr : (Instr.buildSlice t len (parts.map fun (i, x) => (i, a.eval x))).run P w = .ok v w') (d : Option Tmp) (hd : o.dst = d) (h : K (a.put d v) w') : o.wp P a w K Q := by
  subst hd
  unfold Oper.wp execOp
  simp only [ho, Sem.run_bind, hr, Result.andThen_ok, Sem.run_pure]
  exact h

theorem lt_cases (a b : ByteArray) : (lt a b = true ∧ Op.bytesLess a.toList b.toList = true ∧ Op.bytesLess b.toList a.toList = false ∧ (a.toList == b.toList) = false ∧ (b.toList == a.toList) = false ∧ ¬ a.toList = b.toList ∧ ¬ b.toList = a.toList) ∨ (lt a b = false ∧ lt b a = true ∧ Op.bytesLess a.toList b.toList = false ∧ Op.bytesLess b.toList a.toList = true ∧ (a.toList == b.toList) = false ∧ (b.toList == a.toList) = false ∧ ¬ a.toList = b.toList ∧ ¬ b.toList = a.toList) ∨ (lt a b = false ∧ a = b) := by
  cases h1 : lt a b
  · cases h2 : lt b a
    · exact .inr (.inr ⟨rfl, lt_total h1 h2⟩)
    · have hn : ¬ a.toList = b.toList := fun e => lt_ne h2 (ba_list e.symm)
      refine .inr (.inl ⟨rfl, rfl, h1, h2, ?_, ?_, hn, fun e => hn e.symm⟩)
      · rw [beq_eq_false_iff_ne]; exact hn
      · rw [beq_eq_false_iff_ne]; exact fun e => hn e.symm
  · have hn : ¬ a.toList = b.toList := fun e => lt_ne h1 (ba_list e)
    refine .inl ⟨rfl, h1, lt_asymm h1, ?_, ?_, hn, fun e => hn e.symm⟩
    · rw [beq_eq_false_iff_ne]; exact hn
    · rw [beq_eq_false_iff_ne]; exact fun e => hn e.symm
/-- an entry in a variable -/
def enRow (k x : ByteArray) : Obj := .cells #[.string k, .string x] 36 (0, 0)
theorem zeroEn : ((Try.prog.info? 36).bind (·.zero)).map (·.cells) = some #[.string ⟨#[]⟩, .string ⟨#[]⟩] := by kernel_rfl
theorem enInfo : (Try.prog.info? 36).map (·.size) = some 2 := by kernel_rfl
theorem enUnd : Try.prog.underlying 36 = some (.struct (match Try.prog.underlying 36 with | some (.struct fs) => fs | _ => #[])) := by kernel_rfl
theorem en_cells {W : World} {N : Nat} {k x : ByteArray} (h : W.heap[N]? = some (enRow k x)) : W.cell? ⟨N, 0, none⟩ = some (.string k) ∧ W.cell? ⟨N, 1, none⟩ = some (.string x) := box2 h
theorem en_one (k x : ByteArray) : (#[.string k, .string x] : Array Value).all (·.oneCell') = true := by
  rw [Array.all_eq_true']
  intro v hv
  simp only [List.mem_toArray, List.mem_cons, List.not_mem_nil, or_false] at hv
  rcases hv with rfl | rfl <;> rfl
theorem wpList_alloc_en {ops : Array Oper} {rest : List Oper} {o : Oper} {a : Act} {w : World} {Q : Exit → Act → World → Prop} (hg : o.guard = none) (ho : o.op = .alloc 36) (d : Option Tmp) (hd : o.dst = d) (N : Nat) (hN : N = w.heap.size)
    (h : ∀ w', Hid (w'.heap[N]? = some (enRow ⟨#[]⟩ ⟨#[]⟩)) → Hid (Below N w w') → Hid (w'.heap.size = N + 1) → wpList Try.prog ops Q rest (a.put d (.pointer (some ⟨N, 0, none⟩))) w') : wpList Try.prog ops Q (o :: rest) a w :=
  wpList_alloc_row hg _ ho d hd N hN.symm _ zeroEn h
theorem wpList_store_en {ops : Array Oper} {rest : List Oper} {o : Oper} {a : Act} {w : World} {Q : Exit → Act → World → Prop} (hgd : o.guard = none) (x y : Operand) (ho : o.op = .store 36 x y) (g : Nat) (k z : ByteArray) (hx : a.eval x = .pointer (some ⟨g, 0, none⟩)) (hy : a.eval y = .agg #[.string k, .string z])
    (k0 z0 : ByteArray) (hg : w.heap[g]? = some (enRow k0 z0))
    (h : ∀ w', Hid (w'.heap[g]? = some (enRow k z)) → Hid (w' = w.setRow g #[.string k, .string z]) → wpList Try.prog ops Q rest (a.put o.dst undef) w') : wpList Try.prog ops Q (o :: rest) a w :=
  wpList_store_hid hgd _ x y ho g _ hx hy _ _ hg enInfo rfl (en_one _ _) h
theorem wpList_box_en {ops : Array Oper} {rest : List Oper} {o : Oper} {a : Act} {w : World} {Q : Exit → Act → World → Prop} (hg : o.guard = none) (x : Operand) (ho : o.op = .box 36 x) (d : Option Tmp) (hd : o.dst = d) (N : Nat) (hN : N = w.heap.size) (k z : ByteArray) (hx : a.eval x = .agg #[.string k, .string z])
    (h : ∀ w', Hid (w'.heap[N]? = some (enRow k z)) → Hid (Below N w w') → Hid (w'.heap.size = N + 1) → wpList Try.prog ops Q rest (a.put d (.pointer (some ⟨N, 0, none⟩))) w') : wpList Try.prog ops Q (o :: rest) a w :=
  wpList_box_row hg _ x ho d hd N hN.symm _ (by rw [hx]; rfl) h
def ecs (e : En) : List Value := [.string e.1, .string e.2]
/-- entries as records -/
def RE : Rec Try.prog En where
  st := 40
  et := 36
  n := 2
  bts := 32
  cs := ecs
  hn := by decide
  len := fun _ => rfl
  one := fun x v hv => by
    simp only [ecs, List.mem_cons, List.not_mem_nil, or_false] at hv
    rcases hv with rfl | rfl <;> rfl
  und := by kernel_rfl
  info := by
    have h : (Try.prog.info? 36).map (fun i => (i.zero, i.size, i.bytes)) = some (some (.agg #[.string ⟨#[]⟩, .string ⟨#[]⟩]), 2, 32) := by kernel_rfl
    obtain ⟨i, hi, h2⟩ := Option.map_eq_some_iff.1 h
    simp only [Prod.mk.injEq] at h2
    exact ⟨i, _, hi, h2.1, rfl, h2.2.1, h2.2.2⟩
  pos := by decide
theorem ixE (g o n c i : Nat) (hi : i < n) (W : World) : (Instr.indexAt 40 (.slice (some ⟨g, o, none⟩) n c) (.int .i64 (i : Int))).run Try.prog W = .ok (.pointer (some ⟨g, o + i * 2, none⟩)) W := RE.ix g o n c i hi W
/-- entries behind a slice, and the length of the slice -/
structure El (w : World) (l : List En) (ao : Option Addr) (n c : Nat) : Prop extends RE.At w l ao c where
  hn : n = l.length
theorem El.below {w w' : World} {l : List En} {ao : Option Addr} {n c : Nat} (h : El w l ao n c) (hb : Below w.heap.size w w') : El w' l ao n c := ⟨h.toAt.below hb, h.hn⟩
theorem El.few {w : World} {l : List En} {ao : Option Addr} {n c : Nat} (h : El w l ao n c) : n ≤ 4398046511000 := by rw [h.hn]; exact h.many
theorem El.en {w : World} {l : List En} {ao : Option Addr} {n c : Nat} (h : El w l ao n c) {i : Nat} (hi : i < l.length) : ∃ g o, ao = some ⟨g, o, none⟩ ∧ w.cell? ⟨g, o + i * 2, none⟩ = some (.string l[i].1) ∧ w.cell? ⟨g, o + i * 2 + 1, none⟩ = some (.string l[i].2) := by
  obtain ⟨g, o, e, h1⟩ := h.toAt.get hi
  exact ⟨g, o, e, h1 0 _ rfl, h1 1 _ rfl⟩
theorem cell_keep {u W : World} {g o : Nat} {v : Value} (hb : Below u.heap.size u W) (h : u.cell? ⟨g, o, none⟩ = some v) : W.cell? ⟨g, o, none⟩ = some v := (hb.cell (p := ⟨g, o, none⟩) (World.block_lt_of_cell? u _ h)).trans h
end Go.Proofs.Ytopabadnbelegaa.S
