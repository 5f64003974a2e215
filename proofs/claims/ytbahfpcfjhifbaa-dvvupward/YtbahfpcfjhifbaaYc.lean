/- Siblings and states in memory. -/
import Derived.Test.YtbahfpcfjhifbaaYb
import Derived.Test.YtbahfpcfjhifbaaXj
namespace Go.Proofs.Ytbahfpcfjhifbaa
open Go.RowKit Go.Lib
def Sb.cs (x : Sb) : List Value := [.int .u32 (x.a : Int), .int .u64 (x.c : Int), .bool x.gone, .string x.val]
/-- a sibling's value -/
def Sb.v (x : Sb) : Value := .agg #[.int .u32 (x.a : Int), .int .u64 (x.c : Int), .bool x.gone, .string x.val]
def flatS (l : List Sb) : List Value := l.flatMap Sb.cs
theorem flatS_len (l : List Sb) : (flatS l).length = l.length * 4 := by
  induction l with
  | nil => rfl
  | cons c l ih => simp [flatS, Sb.cs] at ih ⊢; omega
theorem flatS_app (a b : List Sb) : flatS (a ++ b) = flatS a ++ flatS b := by simp [flatS]
theorem flatS_one (l : List Sb) : ∀ v ∈ flatS l, v.oneCell' = true := by
  intro v hv
  obtain ⟨d, _, h⟩ := List.mem_flatMap.1 hv
  simp only [Sb.cs, List.mem_cons, List.not_mem_nil, or_false] at h
  rcases h with rfl | rfl | rfl | rfl <;> rfl
theorem flatS_get : ∀ (l : List Sb) (i : Nat) (hi : i < l.length), (flatS l)[i * 4]? = some (.int .u32 (l[i].a : Int)) ∧ (flatS l)[i * 4 + 1]? = some (.int .u64 (l[i].c : Int)) ∧ (flatS l)[i * 4 + 2]? = some (.bool l[i].gone) ∧ (flatS l)[i * 4 + 3]? = some (.string l[i].val)
  | [], _, hi => by simp at hi
  | c :: l, 0, _ => by simp [flatS, Sb.cs]
  | c :: l, i + 1, hi => by
    have := flatS_get l i (by simpa using hi)
    have e : flatS (c :: l) = .int .u32 (c.a : Int) :: .int .u64 (c.c : Int) :: .bool c.gone :: .string c.val :: flatS l := rfl
    rw [e, show (i + 1) * 4 = i * 4 + 1 + 1 + 1 + 1 by omega]
    simpa using this
theorem ixS (g o n c i : Nat) (hi : i < n) (W : World) : (Instr.indexAt 23 (.slice (some ⟨g, o, none⟩) n c) (.int .i64 (i : Int))).run Try.prog W = .ok (.pointer (some ⟨g, o + i * 4, none⟩)) W := by
  have he : Try.prog.elem 23 = 56 := by kernel_rfl
  rw [run_indexAt_slice W 23 _ _ _ _ _ (by rw [he]; kernel_rfl), if_pos ⟨by omega, by omega⟩, he, sizeN (n := 4) (by kernel_rfl)]
  simp only [Result.andThen_ok, Int.toNat_natCast, Addr.add_mid]
/-- the i-th sibling in memory -/
theorem Lies.sb {w : World} {ao : Option Addr} {l : List Sb} (h : Lies w ao (flatS l)) {i : Nat} (hi : i < l.length) : ∃ g o, ao = some ⟨g, o, none⟩ ∧ w.cell? ⟨g, o + i * 4, none⟩ = some (.int .u32 (l[i].a : Int)) ∧ w.cell? ⟨g, o + i * 4 + 1, none⟩ = some (.int .u64 (l[i].c : Int)) ∧ w.cell? ⟨g, o + i * 4 + 2, none⟩ = some (.bool l[i].gone) ∧ w.cell? ⟨g, o + i * 4 + 3, none⟩ = some (.string l[i].val) := by
  obtain ⟨g, o, h1, h2⟩ := h (by rw [flatS_len]; omega)
  have := flatS_get l i hi
  exact ⟨g, o, h1, h2 _ _ this.1, h2 _ _ this.2.1, h2 _ _ this.2.2.1, h2 _ _ this.2.2.2⟩
/-- numbers and texts that siblings may have -/
def Sb.Fit (x : Sb) : Prop := x.a < 4294967296 ∧ x.c < 18446744073709551616 ∧ x.val.size ≤ 140737488355328
def FitS (l : List Sb) : Prop := ∀ x ∈ l, x.Fit
/-- siblings in memory, behind a slice -/
structure Sa (w : World) (l : List Sb) (ao : Option Addr) (c : Nat) : Prop where
  lies : Lies w ao (flatS l)
  cap : l.length ≤ c
  nil : ao = none → c = 0
  fits : FitS l
  len : l.length ≤ 3518437208780
theorem Sa.below {w w' : World} {l : List Sb} {ao : Option Addr} {c : Nat} (h : Sa w l ao c) (hb : Below w.heap.size w w') : Sa w' l ao c := ⟨h.lies.below hb, h.cap, h.nil, h.fits, h.len⟩
theorem Sa.none (w : World) : Sa w [] none 0 := ⟨Lies.nil _ _, Nat.le_refl _, fun _ => rfl, fun _ h => (by cases h), Nat.zero_le _⟩
/-- where a state's lists lie -/
structure Sv where
  sa : Option Addr
  sc : Nat
  ba : Option Addr
  bc : Nat
/-- a state's value -/
def Sv.v (v : Sv) (n m : Nat) : Value := .agg #[.slice v.sa n v.sc, .slice v.ba m v.bc]
structure SAt (w : World) (s : St) (v : Sv) : Prop where
  seen : Da w s.seen v.sa v.sc
  sibs : Sa w s.sibs v.ba v.bc
theorem SAt.below {w w' : World} {s : St} {v : Sv} (h : SAt w s v) (hb : Below w.heap.size w w') : SAt w' s v := ⟨h.seen.below hb, h.sibs.below hb⟩

/- laws on a sibling's block and on a state's -/
theorem sib_parts : ∃ i, Try.prog.info? 56 = some i ∧ i.zero = some (.agg #[.int .u32 0, .int .u64 0, .bool false, .string ⟨#[]⟩]) ∧ i.size = 4 ∧ i.bytes = 40 := by
  have h : (Try.prog.info? 56).map (fun i => (i.zero, i.size, i.bytes)) = some (some (.agg #[.int .u32 0, .int .u64 0, .bool false, .string ⟨#[]⟩]), 4, 40) := by kernel_rfl
  obtain ⟨i, hi, h2⟩ := Option.map_eq_some_iff.1 h
  simp only [Prod.mk.injEq] at h2
  exact ⟨i, hi, h2⟩
theorem undS : Try.prog.underlying 23 = some (.slice 56) := by kernel_rfl
theorem sibUnd : Try.prog.underlying 56 = some (.struct (match Try.prog.underlying 56 with | some (.struct fs) => fs | _ => #[])) := by kernel_rfl
theorem sibInfo : (Try.prog.info? 56).map (·.size) = some 4 := by kernel_rfl
theorem sib_one (x : Sb) : (#[.int .u32 (x.a : Int), .int .u64 (x.c : Int), .bool x.gone, .string x.val] : Array Value).all (·.oneCell') = true := by
  rw [Array.all_eq_true']
  intro v hv
  simp only [List.mem_toArray, List.mem_cons, List.not_mem_nil, or_false] at hv
  rcases hv with rfl | rfl | rfl | rfl <;> rfl
theorem zeroSib : ((Try.prog.info? 56).bind (·.zero)).map (·.cells) = some #[.int .u32 0, .int .u64 0, .bool false, .string ⟨#[]⟩] := by kernel_rfl
theorem box4 {W : World} {N : Nat} {c0 c1 c2 c3 : Value} {t : TypeId} (h : W.heap[N]? = some (.cells #[c0, c1, c2, c3] t (0, 0))) : W.cell? ⟨N, 0, none⟩ = some c0 ∧ W.cell? ⟨N, 1, none⟩ = some c1 ∧ W.cell? ⟨N, 2, none⟩ = some c2 ∧ W.cell? ⟨N, 3, none⟩ = some c3 := by
  refine ⟨?_, ?_, ?_, ?_⟩ <;> simp [World.cell?, h]
def sibRow (x : Sb) : Obj := .cells #[.int .u32 (x.a : Int), .int .u64 (x.c : Int), .bool x.gone, .string x.val] 56 (0, 0)
theorem wpList_alloc_sib {ops : Array Oper} {rest : List Oper} {o : Oper} {a : Act} {w : World} {Q : Exit → Act → World → Prop} (hg : o.guard = none) (ho : o.op = .alloc 56) (d : Option Tmp) (hd : o.dst = d) (N : Nat) (hN : N = w.heap.size)
    (h : ∀ w', Hid (w'.heap[N]? = some (.cells #[.int .u32 0, .int .u64 0, .bool false, .string ⟨#[]⟩] 56 (0, 0))) → Hid (Below N w w') → Hid (w'.heap.size = N + 1) → wpList Try.prog ops Q rest (a.put d (.pointer (some ⟨N, 0, none⟩))) w') : wpList Try.prog ops Q (o :: rest) a w :=
  wpList_alloc_row hg _ ho d hd N hN.symm _ zeroSib h
theorem wpList_store_sib {ops : Array Oper} {rest : List Oper} {o : Oper} {a : Act} {w : World} {Q : Exit → Act → World → Prop} (hgd : o.guard = none) (x y : Operand) (ho : o.op = .store 56 x y) (g : Nat) (s : Sb) (hx : a.eval x = .pointer (some ⟨g, 0, none⟩)) (hy : a.eval y = s.v)
    {q0 q1 q2 q3 : Value} (hg : w.heap[g]? = some (.cells #[q0, q1, q2, q3] 56 (0, 0)))
    (h : ∀ w', Hid (w'.heap[g]? = some (sibRow s)) → Hid (w' = w.setRow g #[.int .u32 (s.a : Int), .int .u64 (s.c : Int), .bool s.gone, .string s.val]) → wpList Try.prog ops Q rest (a.put o.dst undef) w') : wpList Try.prog ops Q (o :: rest) a w :=
  wpList_store_hid hgd _ x y ho g _ hx hy _ _ hg sibInfo rfl (sib_one _) h
theorem wpList_box_sib {ops : Array Oper} {rest : List Oper} {o : Oper} {a : Act} {w : World} {Q : Exit → Act → World → Prop} (hg : o.guard = none) (x : Operand) (ho : o.op = .box 56 x) (d : Option Tmp) (hd : o.dst = d) (N : Nat) (hN : N = w.heap.size) (s : Sb) (hx : a.eval x = s.v)
    (h : ∀ w', Hid (w'.heap[N]? = some (sibRow s)) → Hid (Below N w w') → Hid (w'.heap.size = N + 1) → wpList Try.prog ops Q rest (a.put d (.pointer (some ⟨N, 0, none⟩))) w') : wpList Try.prog ops Q (o :: rest) a w :=
  wpList_box_row hg _ x ho d hd N hN.symm _ (by rw [hx]; rfl) h
/- a state's block -/
theorem zeroState : ((Try.prog.info? 25).bind (·.zero)).map (·.cells) = some #[.slice none 0 0, .slice none 0 0] := by kernel_rfl
theorem stateInfo : (Try.prog.info? 25).map (·.size) = some 2 := by kernel_rfl
theorem stateUnd : Try.prog.underlying 25 = some (.struct (match Try.prog.underlying 25 with | some (.struct fs) => fs | _ => #[])) := by kernel_rfl
theorem state_one (a b : Option Addr) (n m c d : Nat) : (#[.slice a n c, .slice b m d] : Array Value).all (·.oneCell') = true := by
  rw [Array.all_eq_true']
  intro v hv
  simp only [List.mem_toArray, List.mem_cons, List.not_mem_nil, or_false] at hv
  rcases hv with rfl | rfl <;> rfl
def stRow (v : Sv) (n m : Nat) : Obj := .cells #[.slice v.sa n v.sc, .slice v.ba m v.bc] 25 (0, 0)
def Sv.none : Sv := ⟨.none, 0, .none, 0⟩
theorem wpList_alloc_state {ops : Array Oper} {rest : List Oper} {o : Oper} {a : Act} {w : World} {Q : Exit → Act → World → Prop} (hg : o.guard = none) (ho : o.op = .alloc 25) (d : Option Tmp) (hd : o.dst = d) (N : Nat) (hN : N = w.heap.size)
    (h : ∀ w', Hid (w'.heap[N]? = some (stRow Sv.none 0 0)) → Hid (Below N w w') → Hid (w'.heap.size = N + 1) → wpList Try.prog ops Q rest (a.put d (.pointer (some ⟨N, 0, none⟩))) w') : wpList Try.prog ops Q (o :: rest) a w :=
  wpList_alloc_row hg _ ho d hd N hN.symm _ zeroState h
theorem wpList_store_state {ops : Array Oper} {rest : List Oper} {o : Oper} {a : Act} {w : World} {Q : Exit → Act → World → Prop} (hgd : o.guard = none) (x y : Operand) (ho : o.op = .store 25 x y) (g : Nat) (v : Sv) (n m : Nat) (hx : a.eval x = .pointer (some ⟨g, 0, none⟩)) (hy : a.eval y = v.v n m)
    (v0 : Sv) (n0 m0 : Nat) (hg : w.heap[g]? = some (stRow v0 n0 m0))
    (h : ∀ w', Hid (w'.heap[g]? = some (stRow v n m)) → Hid (w' = w.setRow g #[.slice v.sa n v.sc, .slice v.ba m v.bc]) → wpList Try.prog ops Q rest (a.put o.dst undef) w') : wpList Try.prog ops Q (o :: rest) a w :=
  wpList_store_hid hgd _ x y ho g _ hx hy _ _ hg stateInfo rfl (state_one _ _ _ _ _ _) h
theorem wpList_box_state {ops : Array Oper} {rest : List Oper} {o : Oper} {a : Act} {w : World} {Q : Exit → Act → World → Prop} (hg : o.guard = none) (x : Operand) (ho : o.op = .box 25 x) (d : Option Tmp) (hd : o.dst = d) (N : Nat) (hN : N = w.heap.size) (v : Sv) (n m : Nat) (hx : a.eval x = v.v n m)
    (h : ∀ w', Hid (w'.heap[N]? = some (stRow v n m)) → Hid (Below N w w') → Hid (w'.heap.size = N + 1) → wpList Try.prog ops Q rest (a.put d (.pointer (some ⟨N, 0, none⟩))) w') : wpList Try.prog ops Q (o :: rest) a w :=
  wpList_box_row hg _ x ho d hd N hN.symm _ (by rw [hx]; rfl) h
theorem st_cells {W : World} {N n m : Nat} {v : Sv} (h : W.heap[N]? = some (stRow v n m)) : W.cell? ⟨N, 0, none⟩ = some (.slice v.sa n v.sc) ∧ W.cell? ⟨N, 1, none⟩ = some (.slice v.ba m v.bc) := box2 h
theorem sib_cells {W : World} {N : Nat} {s : Sb} (h : W.heap[N]? = some (sibRow s)) : W.cell? ⟨N, 0, none⟩ = some (.int .u32 (s.a : Int)) ∧ W.cell? ⟨N, 1, none⟩ = some (.int .u64 (s.c : Int)) ∧ W.cell? ⟨N, 2, none⟩ = some (.bool s.gone) ∧ W.cell? ⟨N, 3, none⟩ = some (.string s.val) := box4 h
/-- siblings of one's own -/
def OwnS (w : World) (B : Nat) (l : List Sb) (ao : Option Addr) (c : Nat) : Prop := w.ownsRow B 56 4 (.slice ao l.length c) l.length (flatS l)
/-- a list of siblings behind a slice -/
structure Dw (w : World) (l : List Sb) (ao : Option Addr) (c : Nat) : Prop where
  lies : Lies w ao (flatS l)
  cap : l.length ≤ c
  nil : ao = none → c = 0
theorem Sa.dw {w : World} {l : List Sb} {ao : Option Addr} {c : Nat} (h : Sa w l ao c) : Dw w l ao c := ⟨h.lies, h.cap, h.nil⟩
theorem Dw.below {w w' : World} {l : List Sb} {ao : Option Addr} {c : Nat} (h : Dw w l ao c) (hb : Below w.heap.size w w') : Dw w' l ao c := ⟨h.lies.below hb, h.cap, h.nil⟩
theorem OwnS.dw {w : World} {B : Nat} {l : List Sb} {ao : Option Addr} {c : Nat} (h : OwnS w B l ao c) : Dw w l ao c := ⟨(own_lies h).1, (own_lies h).2.1, (own_lies h).2.2.1⟩
theorem OwnS.below {w w' : World} {B : Nat} {l : List Sb} {ao : Option Addr} {c : Nat} (h : OwnS w B l ao c) (hb : Below w.heap.size w w') : OwnS w' B l ao c := own_below h hb
theorem OwnS.sa {w : World} {B : Nat} {l : List Sb} {ao : Option Addr} {c : Nat} (h : OwnS w B l ao c) (hf : FitS l) (hl : l.length ≤ 3518437208780) : Sa w l ao c := ⟨h.dw.lies, h.dw.cap, h.dw.nil, hf, hl⟩
theorem OwnS.nil (w : World) (B : Nat) : OwnS w B [] none 0 := World.ownsRow_nil _ _ _ _
/-- append of siblings onto siblings of one's own -/
theorem run_putS (w : World) (ty : TypeId) (B : Nat) (l m : List Sb) (ao bo : Option Addr) (c d : Nat) (ho : OwnS w B l ao c) (hm : Dw w m bo d) (hl : l.length + m.length ≤ 3518437208880) (hB : B ≤ w.heap.size) :
    ∃ ao' c' w', (Builtin.append_ #[23, 23] ty #[.slice ao l.length c, .slice bo m.length d]).run Try.prog w = .ok (.slice ao' (l ++ m).length c') w' ∧ OwnS w' B (l ++ m) ao' c' ∧ w.grownBy w' (Value.slice ao l.length c).ownBlock ∧ (∀ g o, ao' = some ⟨g, o, none⟩ → (∃ o', ao = some ⟨g, o', none⟩) ∨ w.heap.size ≤ g) := by
  obtain ⟨i, hi, hz, hs, hby⟩ := sib_parts
  cases bo with
  | none =>
    obtain rfl := hm.nil rfl
    obtain rfl : m = [] := List.eq_nil_of_length_eq_zero (by have := hm.cap; omega)
    rw [List.append_nil]
    exact ⟨ao, c, w, run_append_owned_none (P := Try.prog) (w := w) B 23 ty 56 i 4 undS hi _ _ _ ho, ho, World.grownBy.refl _ _, fun g o h => .inl ⟨o, h⟩⟩
  | some ad =>
    obtain ⟨v', w', hr, h2, h3, h4⟩ := W.run_append_own' (P := Try.prog) w B 23 ty 56 i _ 4 40 undS hi hz hs hby rfl (by decide) (.slice ao l.length c) l.length (flatS l) ho ad m.length d (flatS m) (flatS_len m) (fun j u hu => by
      obtain ⟨g, o, he, hr⟩ := hm.lies (by have := (List.getElem?_eq_some_iff.1 hu).1; omega)
      cases he
      rw [Addr.add_mid]
      exact hr j u hu) (flatS_one m) (by unfold maxLen; omega) (by omega) hB
    obtain ⟨ao', c', rfl⟩ := W.owns_shape h2
    rw [← List.length_append, ← flatS_app] at h2
    rw [← List.length_append] at hr
    refine ⟨ao', c', w', hr, h2, h3, fun g o hg => ?_⟩
    subst hg
    rcases h4 with h4 | ⟨g', h4, h5⟩
    · cases ao with
      | none => cases h4
      | some ad =>
        obtain ⟨g1, o1, i1⟩ := ad
        rcases ho.2 with ⟨hv, _⟩ | ⟨g2, cap2, cur2, hv, _⟩
        · simp at hv
        · simp only [Value.slice.injEq, Option.some.injEq] at hv
          rw [hv.1] at h4 ⊢
          cases h4
          exact .inl ⟨0, rfl⟩
    · cases h4
      exact .inr h5
theorem grown_belowS {w w' : World} {B : Nat} {l : List Sb} {ao : Option Addr} {c : Nat} (ho : OwnS w B l ao c) (hg : w.grownBy w' (Value.slice ao l.length c).ownBlock) (hB : B ≤ w.heap.size) : Below B w w' :=
  (Below.refl B w).grown hg hB (fun k hk => (World.ownsRow.lt ho k hk).1)
theorem wp_putS {o : Oper} {a : Act} {w : World} {K : Act → World → Prop} {Q : Exit → Act → World → Prop} (s x : Operand) (ho : o.op = .call { callee := .builtin .append, args := #[s, x], argTypes := #[23, 23] }) (d : Option Tmp) (hd : o.dst = d)
    (B : Nat) (l m : List Sb) (n1 n2 : Nat) (e1 : n1 = l.length) (e2 : n2 = m.length) (ao bo : Option Addr) (c c2 : Nat) (hs : a.eval s = .slice ao n1 c) (hx : a.eval x = .slice bo n2 c2) (hown : OwnS w B l ao c) (hm : Dw w m bo c2) (hl : l.length + m.length ≤ 3518437208880) (hB : B ≤ w.heap.size)
    (h : ∀ ao' n' c' w', Hid (n' = (l ++ m).length) → Hid (OwnS w' B (l ++ m) ao' c') → Hid (w.grownBy w' (Value.slice ao l.length c).ownBlock) → Hid (Below B w w') → Hid (∀ g o, ao' = some ⟨g, o, none⟩ → (∃ o', ao = some ⟨g, o', none⟩) ∨ w.heap.size ≤ g) → K (a.put d (.slice ao' n' c')) w') : o.wp Try.prog a w K Q := by
  subst hd e1 e2
  obtain ⟨ao', c', w', hr, h1, h2, h3⟩ := run_putS w o.type B l m ao bo c c2 hown hm hl hB
  unfold Oper.wp execOp
  simp only [ho, resolve, invoke, builtin, Sem.run_bind, Sem.run_pure, Result.andThen_ok, List.map_toArray, List.map_cons, List.map_nil, hs, hx, hr]
  exact h ao' _ c' w' rfl h1 h2 (grown_belowS hown h2 hB) h3
theorem wpList_putS {ops : Array Oper} {rest : List Oper} {o : Oper} {a : Act} {w : World} {Q : Exit → Act → World → Prop} (hgd : o.guard = none) (s x : Operand) (ho : o.op = .call { callee := .builtin .append, args := #[s, x], argTypes := #[23, 23] }) (d : Option Tmp) (hd : o.dst = d)
    (B : Nat) (l m : List Sb) (n1 n2 : Nat) (e1 : n1 = l.length) (e2 : n2 = m.length) (ao bo : Option Addr) (c c2 : Nat) (hs : a.eval s = .slice ao n1 c) (hx : a.eval x = .slice bo n2 c2) (hown : OwnS w B l ao c) (hm : Dw w m bo c2) (hl : l.length + m.length ≤ 3518437208880) (hB : B ≤ w.heap.size)
    (h : ∀ ao' n' c' w', Hid (n' = (l ++ m).length) → Hid (OwnS w' B (l ++ m) ao' c') → Hid (w.grownBy w' (Value.slice ao l.length c).ownBlock) → Hid (Below B w w') → Hid (∀ g o, ao' = some ⟨g, o, none⟩ → (∃ o', ao = some ⟨g, o', none⟩) ∨ w.heap.size ≤ g) → wpList Try.prog ops Q rest (a.put d (.slice ao' n' c')) w') : wpList Try.prog ops Q (o :: rest) a w := by
  subst hd e1 e2
  refine wpList_plain hgd fun K hK => ?_
  obtain ⟨ao', c', w', hr, h1, h2, h3⟩ := run_putS w o.type B l m ao bo c c2 hown hm hl hB
  unfold Oper.wp execOp
  simp only [ho, resolve, invoke, builtin, Sem.run_bind, Sem.run_pure, Result.andThen_ok, List.map_toArray, List.map_cons, List.map_nil, hs, hx, hr]
  exact hK _ _ (h ao' _ c' w' rfl h1 h2 (grown_belowS hown h2 hB) h3)
theorem bsS (W : World) (x : Sb) : (Instr.buildSlice 23 1 #[(0, x.v)]).run Try.prog W = .ok (.slice (some ⟨W.heap.size, 0, none⟩) 1 1) (W.alloc (.cells #[.int .u32 (x.a : Int), .int .u64 (x.c : Int), .bool x.gone, .string x.val] 56)) := by kernel_rfl
theorem Dw.one (W : World) (x : Sb) (t : TypeId) : Dw (W.alloc (.cells #[.int .u32 (x.a : Int), .int .u64 (x.c : Int), .bool x.gone, .string x.val] t)) [x] (some ⟨W.heap.size, 0, none⟩) 1 :=
  ⟨fun _ => ⟨_, 0, rfl, fun j v hv => by
    have h1 : (W.alloc (.cells #[.int .u32 (x.a : Int), .int .u64 (x.c : Int), .bool x.gone, .string x.val] t)).heap[W.heap.size]? = some (.cells #[.int .u32 (x.a : Int), .int .u64 (x.c : Int), .bool x.gone, .string x.val] t (0, 0)) := heap_alloc_new _ _
    simp only [World.cell?, h1, Nat.zero_add]
    simpa [flatS, Sb.cs] using hv⟩, by simp, fun e => by cases e⟩
/-- a list without its first -/
theorem tailS (w : World) (q : Sb) (l : List Sb) (g o c : Nat) (h : Dw w (q :: l) (some ⟨g, o, none⟩) c) : ∃ ao' c', Dw w l ao' c' ∧ ∀ W : World, (Instr.slice 23 (.slice (some ⟨g, o, none⟩) (l.length + 1) c) (some (.int .i64 1)) none none).run Try.prog W = .ok (.slice ao' l.length c') W := by
  have hc := h.cap
  rw [List.length_cons] at hc
  have he : Try.prog.elem 23 = 56 := by kernel_rfl
  refine ⟨if c = 1 then some ⟨g, o, none⟩ else some ⟨g, o + 4, none⟩, c - 1, ⟨fun h0 => ?_, by omega, fun e => by split at e <;> cases e⟩, fun W => ?_⟩
  · rw [flatS_len] at h0
    rw [if_neg (by omega)]
    obtain ⟨g', o', e, hr⟩ := h.lies (by rw [flatS_len]; simp)
    cases e
    refine ⟨g, o + 4, rfl, fun j v hv => ?_⟩
    have := hr (j + 4) v (by
      rw [show flatS (q :: l) = .int .u32 (q.a : Int) :: .int .u64 (q.c : Int) :: .bool q.gone :: .string q.val :: flatS l from rfl]
      simpa using hv)
    rw [show o + 4 + j = o + (j + 4) by omega]
    exact this
  · rw [run_slice_l W 23 _ _ _ (by rw [he]; exact undS) .i64 1 (by omega) (by omega), he, sizeN (n := 4) (by kernel_rfl)]
    simp only [Result.andThen_ok, sliced, Option.map_some, Addr.add_mid]
    congr 1
end Go.Proofs.Ytbahfpcfjhifbaa
