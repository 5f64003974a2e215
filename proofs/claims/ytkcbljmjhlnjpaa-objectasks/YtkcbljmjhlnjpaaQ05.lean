/- Put together out of Xj, Yc, Yd, Ye. -/
import Derived.Test.YtkcbljmjhlnjpaaQ04
import Derived.Test.YtkcbljmjhlnjpaaQ02
namespace Go.Proofs.Ytkcbljmjhlnjpaa
open Go.RowKit

/-- dots in memory, behind a slice -/
structure Da (w : World) (l : List (Nat × Nat)) (ao : Option Addr) (c : Nat) : Prop extends Dv w l ao c where
  fits : Fits l
  len : l.length ≤ 8796093021952
theorem Da.below {w w' : World} {l : List (Nat × Nat)} {ao : Option Addr} {c : Nat} (h : Da w l ao c) (hb : Below w.heap.size w w') : Da w' l ao c := ⟨h.toDv.below hb, h.fits, h.len⟩
theorem Da.at {w : World} {l : List (Nat × Nat)} {ao : Option Addr} {c : Nat} (h : Da w l ao c) : DAt w l ao := ⟨h.lies, h.fits, Nat.le_trans h.len (by decide)⟩
theorem len_da {l : List (Nat × Nat)} (h : l.length ≤ 128) : l.length ≤ 8796093021952 := by omega
theorem fits_mrg {a b : List (Nat × Nat)} (ha : Fits a) (hb : Fits b) : Fits (V.mrg a b) := by
  induction a, b using V.mrg.induct with
  | case1 b => rw [V.nil_mrg]; exact hb
  | case2 x a => rw [V.mrg_nil]; exact ha
  | case3 x a y b h ih =>
    rw [V.mrg, if_pos h]
    intro d hd
    rcases List.mem_cons.1 hd with rfl | hd
    · exact ha _ (List.mem_cons_self ..)
    · exact ih (fun d hd => ha d (List.mem_cons_of_mem _ hd)) hb d hd
  | case4 x a y b h h2 ih =>
    rw [V.mrg, if_neg h, if_pos h2]
    intro d hd
    rcases List.mem_cons.1 hd with rfl | hd
    · exact hb _ (List.mem_cons_self ..)
    · exact ih ha (fun d hd => hb d (List.mem_cons_of_mem _ hd)) d hd
  | case5 x a y b h h2 ih =>
    rw [V.mrg, if_neg h, if_neg h2]
    intro d hd
    rcases List.mem_cons.1 hd with rfl | hd
    · unfold V.later; split
      · exact hb _ (List.mem_cons_self ..)
      · exact ha _ (List.mem_cons_self ..)
    · exact ih (fun d hd => ha d (List.mem_cons_of_mem _ hd)) (fun d hd => hb d (List.mem_cons_of_mem _ hd)) d hd
/-- what Max answers -/
noncomputable def maxV (a b : List (Nat × Nat)) : List (Nat × Nat) × Int := if V.okB a && V.okB b then (if (V.mrg a b).length ≤ 64 then (V.mrg a b, 0) else ([], 82)) else ([], 100)
set_option maxRecDepth 100000 in
set_option maxHeartbeats 2000000 in
theorem vMax (a b : List (Nat × Nat)) (aa ba : Option Addr) (ca cb : Nat) (u : World) (ha : Da u a aa ca) (hb : Da u b ba cb) :
    Calls Try.prog 88 #[.slice aa a.length ca, .slice ba b.length cb] u fun e u' => ∃ ao c, e = .returned (.tuple #[.slice ao (maxV a b).1.length c, .int .i64 (maxV a b).2]) ∧ OwnD u' u.heap.size (maxV a b).1 ao c ∧ Below u.heap.size u u' := by
  have HV := hide (vValid a aa ca u ha.at)
  have HW := hide (fun (w : World) (hw : Below u.heap.size u w) => vValid b ba cb w (hb.below hw).at)
  have HE : Hid (∀ w : World, OwnD w u.heap.size [] none 0) := fun w => World.ownsRow_nil _ _ _ _
  cases h1 : V.okB a with
  | false =>
    rw [show maxV a b = ([], 100) by unfold maxV; rw [h1]; rfl]
    rw [h1] at HV
    clear ha hb HW
    go_enter Try.func88, Try.ntmps88
    go_wp2_with (first | (go_at_call 122; refine (unhide HV).mono ?_; rintro e w1 ⟨rfl, hb1⟩) | fail)
    go_ret2
    exact ⟨none, 0, rfl, unhide HE _, hb1⟩
  | true =>
    rw [h1] at HV
    cases h2 : V.okB b with
    | false =>
      rw [show maxV a b = ([], 100) by unfold maxV; rw [h1, h2]; rfl]
      rw [h2] at HW
      clear ha hb
      obtain ⟨N, hN⟩ : ∃ N, N = u.heap.size := ⟨_, rfl⟩
      have HN := hide hN
      rw [← hN] at HV HW HE ⊢
      clear hN
      go_enter Try.func88, Try.ntmps88
      go_wp2_with (first
        | (go_at_call_of 122 (Value.slice aa a.length ca); refine (unhide HV).mono ?_; rintro e w1 ⟨rfl, hb1⟩; have HB1 := hide hb1; clear hb1 HV)
        | (go_at_call 122; refine (unhide HW _ (unhide HB1)).mono ?_; rintro e w2 ⟨rfl, hb2⟩; have HB2 : Hid (Below N u w2) := (unhide HB1).trans (hb2.mono (by rw [unhide HN]; exact (unhide HB1).size)); clear hb2)
        | fail)
      go_ret2
      exact ⟨none, 0, rfl, unhide HE _, unhide HB2⟩
    | true =>
      have ok1 := V.okB_true.1 h1
      have ok2 := V.okB_true.1 h2
      rw [show maxV a b = (if (V.mrg a b).length ≤ 64 then (V.mrg a b, 0) else ([], 82)) by unfold maxV; rw [h1, h2]; rfl]
      rw [h2] at HW
      have HM := hide (fun (w : World) (hw : Below u.heap.size u w) => vMost a b aa ba ca cb w (ha.below hw).toDv (hb.below hw).toDv ok1.len ok2.len)
      have hml := V.mrg_len_le a b
      have hml2 : (V.mrg a b).length ≤ 128 := by have := ok1.len; have := ok2.len; omega
      clear ha hb ok1 ok2 h1 h2 hml
      obtain ⟨N, hN⟩ : ∃ N, N = u.heap.size := ⟨_, rfl⟩
      have HN := hide hN
      rw [← hN] at HV HW HE HM ⊢
      clear hN
      generalize V.mrg a b = m at *
      have hmi : (m.length : Int) ≤ 128 := by omega
      by_cases h64 : m.length ≤ 64
      · rw [if_pos h64]
        have h64i : ¬ (64 : Int) < (m.length : Int) := by omega
        show Calls Try.prog 88 #[.slice aa a.length ca, .slice ba b.length cb] u fun e u' => ∃ ao c, e = .returned (.tuple #[.slice ao m.length c, .int .i64 0]) ∧ OwnD u' N m ao c ∧ Below N u u'
        go_enter Try.func88, Try.ntmps88
        go_wp2_with (first
          | (go_at_call_of 122 (Value.slice aa a.length ca); refine (unhide HV).mono ?_; rintro e w1 ⟨rfl, hb1⟩; have HB1 := hide hb1; clear hb1 HV)
          | (go_at_call 122; refine (unhide HW _ (unhide HB1)).mono ?_; rintro e w2 ⟨rfl, hb2⟩; have HB2 : Hid (Below N u w2) := (unhide HB1).trans (hb2.mono (by rw [unhide HN]; exact (unhide HB1).size)); clear hb2)
          | (go_at_call 130; refine (unhide HM _ (unhide HB2)).mono ?_; rintro e w3 ⟨ao, c, rfl, ho3, hb3⟩; have HB3 : Hid (Below N u w3) := (unhide HB2).trans (hb3.mono (by rw [unhide HN]; exact (unhide HB2).size)); have HO3 : Hid (OwnD w3 N m ao c) := own_down ho3 (by rw [unhide HN]; exact (unhide HB2).size); clear hb3 ho3)
          | fail)
        go_ret2
        exact ⟨ao, c, rfl, unhide HO3, unhide HB3⟩
      · rw [if_neg h64]
        have h64i : (64 : Int) < (m.length : Int) := by omega
        show Calls Try.prog 88 #[.slice aa a.length ca, .slice ba b.length cb] u fun e u' => ∃ ao c, e = .returned (.tuple #[.slice ao 0 c, .int .i64 82]) ∧ OwnD u' N [] ao c ∧ Below N u u'
        go_enter Try.func88, Try.ntmps88
        go_wp2_with (first
          | (go_at_call_of 122 (Value.slice aa a.length ca); refine (unhide HV).mono ?_; rintro e w1 ⟨rfl, hb1⟩; have HB1 := hide hb1; clear hb1 HV)
          | (go_at_call 122; refine (unhide HW _ (unhide HB1)).mono ?_; rintro e w2 ⟨rfl, hb2⟩; have HB2 : Hid (Below N u w2) := (unhide HB1).trans (hb2.mono (by rw [unhide HN]; exact (unhide HB1).size)); clear hb2)
          | (go_at_call 130; refine (unhide HM _ (unhide HB2)).mono ?_; rintro e w3 ⟨ao, c, rfl, ho3, hb3⟩; have HB3 : Hid (Below N u w3) := (unhide HB2).trans (hb3.mono (by rw [unhide HN]; exact (unhide HB2).size)); clear hb3 ho3)
          | fail)
        go_ret2
        exact ⟨none, 0, rfl, unhide HE _, unhide HB3⟩
end Go.Proofs.Ytkcbljmjhlnjpaa
namespace Go.Proofs.Ytkcbljmjhlnjpaa
open Go.RowKit Go.Lib
def Sb.cs (x : Sb) : List Value := [.int .u32 (x.a : Int), .int .u64 (x.c : Int), .bool x.gone, .string x.val]
/-- a sibling's value -/
def Sb.v (x : Sb) : Value := .agg #[.int .u32 (x.a : Int), .int .u64 (x.c : Int), .bool x.gone, .string x.val]
def flatS (l : List Sb) : List Value := l.flatMap Sb.cs
theorem flatS_len (l : List Sb) : (flatS l).length = l.length * 4 := by
  induction l with
  | nil => rfl
  | cons c l ih => simp [flatS, Sb.cs] at ih ⊢; omega
theorem flatS_app (a b : List Sb) : flatS (a ++ b) = flatS a ++ flatS b := by simp [flatS]
theorem flatS_one (l : List Sb) : ∀ v ∈ flatS l, v.oneCell' = true := by
  intro v hv
  obtain ⟨d, _, h⟩ := List.mem_flatMap.1 hv
  simp only [Sb.cs, List.mem_cons, List.not_mem_nil, or_false] at h
  rcases h with rfl | rfl | rfl | rfl <;> rfl
theorem flatS_get : ∀ (l : List Sb) (i : Nat) (hi : i < l.length), (flatS l)[i * 4]? = some (.int .u32 (l[i].a : Int)) ∧ (flatS l)[i * 4 + 1]? = some (.int .u64 (l[i].c : Int)) ∧ (flatS l)[i * 4 + 2]? = some (.bool l[i].gone) ∧ (flatS l)[i * 4 + 3]? = some (.string l[i].val)
  | [], _, hi => by simp at hi
  | c :: l, 0, _ => by simp [flatS, Sb.cs]
  | c :: l, i + 1, hi => by
    have := flatS_get l i (by simpa using hi)
    have e : flatS (c :: l) = .int .u32 (c.a : Int) :: .int .u64 (c.c : Int) :: .bool c.gone :: .string c.val :: flatS l := rfl
    rw [e, show (i + 1) * 4 = i * 4 + 1 + 1 + 1 + 1 by omega]
    simpa using this
theorem ixS (g o n c i : Nat) (hi : i < n) (W : World) : (Instr.indexAt 29 (.slice (some ⟨g, o, none⟩) n c) (.int .i64 (i : Int))).run Try.prog W = .ok (.pointer (some ⟨g, o + i * 4, none⟩)) W := by
  have he : Try.prog.elem 29 = 69 := by kernel_rfl
  rw [run_indexAt_slice W 29 _ _ _ _ _ (by rw [he]; kernel_rfl), if_pos ⟨by omega, by omega⟩, he, sizeN (n := 4) (by kernel_rfl)]
  simp only [Result.andThen_ok, Int.toNat_natCast, Addr.add_mid]
/-- the i-th sibling in memory -/
theorem Lies.sb {w : World} {ao : Option Addr} {l : List Sb} (h : Lies w ao (flatS l)) {i : Nat} (hi : i < l.length) : ∃ g o, ao = some ⟨g, o, none⟩ ∧ w.cell? ⟨g, o + i * 4, none⟩ = some (.int .u32 (l[i].a : Int)) ∧ w.cell? ⟨g, o + i * 4 + 1, none⟩ = some (.int .u64 (l[i].c : Int)) ∧ w.cell? ⟨g, o + i * 4 + 2, none⟩ = some (.bool l[i].gone) ∧ w.cell? ⟨g, o + i * 4 + 3, none⟩ = some (.string l[i].val) := by
  obtain ⟨g, o, h1, h2⟩ := h (by rw [flatS_len]; omega)
  have := flatS_get l i hi
  exact ⟨g, o, h1, h2 _ _ this.1, h2 _ _ this.2.1, h2 _ _ this.2.2.1, h2 _ _ this.2.2.2⟩
/-- numbers and texts that siblings may have -/
def Sb.Fit (x : Sb) : Prop := x.a < 4294967296 ∧ x.c < 18446744073709551616 ∧ x.val.size ≤ 140737488355328
def FitS (l : List Sb) : Prop := ∀ x ∈ l, x.Fit
/-- siblings in memory, behind a slice -/
structure Sa (w : World) (l : List Sb) (ao : Option Addr) (c : Nat) : Prop where
  lies : Lies w ao (flatS l)
  cap : l.length ≤ c
  nil : ao = none → c = 0
  fits : FitS l
  len : l.length ≤ 3518437208780
theorem Sa.below {w w' : World} {l : List Sb} {ao : Option Addr} {c : Nat} (h : Sa w l ao c) (hb : Below w.heap.size w w') : Sa w' l ao c := ⟨h.lies.below hb, h.cap, h.nil, h.fits, h.len⟩
theorem Sa.none (w : World) : Sa w [] none 0 := ⟨Lies.nil _ _, Nat.le_refl _, fun _ => rfl, fun _ h => (by cases h), Nat.zero_le _⟩
/-- where a state's lists lie -/
structure Sv where
  sa : Option Addr
  sc : Nat
  ba : Option Addr
  bc : Nat
/-- a state's value -/
def Sv.v (v : Sv) (n m : Nat) : Value := .agg #[.slice v.sa n v.sc, .slice v.ba m v.bc]
structure SAt (w : World) (s : St) (v : Sv) : Prop where
  seen : Da w s.seen v.sa v.sc
  sibs : Sa w s.sibs v.ba v.bc
theorem SAt.below {w w' : World} {s : St} {v : Sv} (h : SAt w s v) (hb : Below w.heap.size w w') : SAt w' s v := ⟨h.seen.below hb, h.sibs.below hb⟩

/- laws on a sibling's block and on a state's -/
theorem sib_parts : ∃ i, Try.prog.info? 69 = some i ∧ i.zero = some (.agg #[.int .u32 0, .int .u64 0, .bool false, .string ⟨#[]⟩]) ∧ i.size = 4 ∧ i.bytes = 40 := by
  have h : (Try.prog.info? 69).map (fun i => (i.zero, i.size, i.bytes)) = some (some (.agg #[.int .u32 0, .int .u64 0, .bool false, .string ⟨#[]⟩]), 4, 40) := by kernel_rfl
  obtain ⟨i, hi, h2⟩ := Option.map_eq_some_iff.1 h
  simp only [Prod.mk.injEq] at h2
  exact ⟨i, hi, h2⟩
theorem undS : Try.prog.underlying 29 = some (.slice 69) := by kernel_rfl
theorem sibUnd : Try.prog.underlying 69 = some (.struct (match Try.prog.underlying 69 with | some (.struct fs) => fs | _ => #[])) := by kernel_rfl
theorem sibInfo : (Try.prog.info? 69).map (·.size) = some 4 := by kernel_rfl
theorem sib_one (x : Sb) : (#[.int .u32 (x.a : Int), .int .u64 (x.c : Int), .bool x.gone, .string x.val] : Array Value).all (·.oneCell') = true := by
  rw [Array.all_eq_true']
  intro v hv
  simp only [List.mem_toArray, List.mem_cons, List.not_mem_nil, or_false] at hv
  rcases hv with rfl | rfl | rfl | rfl <;> rfl
theorem zeroSib : ((Try.prog.info? 69).bind (·.zero)).map (·.cells) = some #[.int .u32 0, .int .u64 0, .bool false, .string ⟨#[]⟩] := by kernel_rfl
theorem box4 {W : World} {N : Nat} {c0 c1 c2 c3 : Value} {t : TypeId} (h : W.heap[N]? = some (.cells #[c0, c1, c2, c3] t (0, 0))) : W.cell? ⟨N, 0, none⟩ = some c0 ∧ W.cell? ⟨N, 1, none⟩ = some c1 ∧ W.cell? ⟨N, 2, none⟩ = some c2 ∧ W.cell? ⟨N, 3, none⟩ = some c3 := by
  refine ⟨?_, ?_, ?_, ?_⟩ <;> simp [World.cell?, h]
def sibRow (x : Sb) : Obj := .cells #[.int .u32 (x.a : Int), .int .u64 (x.c : Int), .bool x.gone, .string x.val] 69 (0, 0)
theorem wpList_alloc_sib {ops : Array Oper} {rest : List Oper} {o : Oper} {a : Act} {w : World} {Q : Exit → Act → World → Prop} (hg : o.guard = none) (ho : o.op = .alloc 69) (d : Option Tmp) (hd : o.dst = d) (N : Nat) (hN : N = w.heap.size)
    (h : ∀ w', Hid (w'.heap[N]? = some (.cells #[.int .u32 0, .int .u64 0, .bool false, .string ⟨#[]⟩] 69 (0, 0))) → Hid (Below N w w') → Hid (w'.heap.size = N + 1) → wpList Try.prog ops Q rest (a.put d (.pointer (some ⟨N, 0, none⟩))) w') : wpList Try.prog ops Q (o :: rest) a w :=
  wpList_alloc_row hg _ ho d hd N hN.symm _ zeroSib h
theorem wpList_store_sib {ops : Array Oper} {rest : List Oper} {o : Oper} {a : Act} {w : World} {Q : Exit → Act → World → Prop} (hgd : o.guard = none) (x y : Operand) (ho : o.op = .store 69 x y) (g : Nat) (s : Sb) (hx : a.eval x = .pointer (some ⟨g, 0, none⟩)) (hy : a.eval y = s.v)
    {q0 q1 q2 q3 : Value} (hg : w.heap[g]? = some (.cells #[q0, q1, q2, q3] 69 (0, 0)))
    (h : ∀ w', Hid (w'.heap[g]? = some (sibRow s)) → Hid (w' = w.setRow g #[.int .u32 (s.a : Int), .int .u64 (s.c : Int), .bool s.gone, .string s.val]) → wpList Try.prog ops Q rest (a.put o.dst undef) w') : wpList Try.prog ops Q (o :: rest) a w :=
  wpList_store_hid hgd _ x y ho g _ hx hy _ _ hg sibInfo rfl (sib_one _) h
theorem wpList_box_sib {ops : Array Oper} {rest : List Oper} {o : Oper} {a : Act} {w : World} {Q : Exit → Act → World → Prop} (hg : o.guard = none) (x : Operand) (ho : o.op = .box 69 x) (d : Option Tmp) (hd : o.dst = d) (N : Nat) (hN : N = w.heap.size) (s : Sb) (hx : a.eval x = s.v)
    (h : ∀ w', Hid (w'.heap[N]? = some (sibRow s)) → Hid (Below N w w') → Hid (w'.heap.size = N + 1) → wpList Try.prog ops Q rest (a.put d (.pointer (some ⟨N, 0, none⟩))) w') : wpList Try.prog ops Q (o :: rest) a w :=
  wpList_box_row hg _ x ho d hd N hN.symm _ (by rw [hx]; rfl) h
/- a state's block -/
theorem zeroState : ((Try.prog.info? 31).bind (·.zero)).map (·.cells) = some #[.slice none 0 0, .slice none 0 0] := by kernel_rfl
theorem stateInfo : (Try.prog.info? 31).map (·.size) = some 2 := by kernel_rfl
theorem stateUnd : Try.prog.underlying 31 = some (.struct (match Try.prog.underlying 31 with | some (.struct fs) => fs | _ => #[])) := by kernel_rfl
theorem state_one (a b : Option Addr) (n m c d : Nat) : (#[.slice a n c, .slice b m d] : Array Value).all (·.oneCell') = true := by
  rw [Array.all_eq_true']
  intro v hv
  simp only [List.mem_toArray, List.mem_cons, List.not_mem_nil, or_false] at hv
  rcases hv with rfl | rfl <;> rfl
def stRow (v : Sv) (n m : Nat) : Obj := .cells #[.slice v.sa n v.sc, .slice v.ba m v.bc] 31 (0, 0)
def Sv.none : Sv := ⟨.none, 0, .none, 0⟩
theorem wpList_alloc_state {ops : Array Oper} {rest : List Oper} {o : Oper} {a : Act} {w : World} {Q : Exit → Act → World → Prop} (hg : o.guard = none) (ho : o.op = .alloc 31) (d : Option Tmp) (hd : o.dst = d) (N : Nat) (hN : N = w.heap.size)
    (h : ∀ w', Hid (w'.heap[N]? = some (stRow Sv.none 0 0)) → Hid (Below N w w') → Hid (w'.heap.size = N + 1) → wpList Try.prog ops Q rest (a.put d (.pointer (some ⟨N, 0, none⟩))) w') : wpList Try.prog ops Q (o :: rest) a w :=
  wpList_alloc_row hg _ ho d hd N hN.symm _ zeroState h
theorem wpList_store_state {ops : Array Oper} {rest : List Oper} {o : Oper} {a : Act} {w : World} {Q : Exit → Act → World → Prop} (hgd : o.guard = none) (x y : Operand) (ho : o.op = .store 31 x y) (g : Nat) (v : Sv) (n m : Nat) (hx : a.eval x = .pointer (some ⟨g, 0, none⟩)) (hy : a.eval y = v.v n m)
    (v0 : Sv) (n0 m0 : Nat) (hg : w.heap[g]? = some (stRow v0 n0 m0))
    (h : ∀ w', Hid (w'.heap[g]? = some (stRow v n m)) → Hid (w' = w.setRow g #[.slice v.sa n v.sc, .slice v.ba m v.bc]) → wpList Try.prog ops Q rest (a.put o.dst undef) w') : wpList Try.prog ops Q (o :: rest) a w :=
  wpList_store_hid hgd _ x y ho g _ hx hy _ _ hg stateInfo rfl (state_one _ _ _ _ _ _) h
theorem wpList_box_state {ops : Array Oper} {rest : List Oper} {o : Oper} {a : Act} {w : World} {Q : Exit → Act → World → Prop} (hg : o.guard = none) (x : Operand) (ho : o.op = .box 31 x) (d : Option Tmp) (hd : o.dst = d) (N : Nat) (hN : N = w.heap.size) (v : Sv) (n m : Nat) (hx : a.eval x = v.v n m)
    (h : ∀ w', Hid (w'.heap[N]? = some (stRow v n m)) → Hid (Below N w w') → Hid (w'.heap.size = N + 1) → wpList Try.prog ops Q rest (a.put d (.pointer (some ⟨N, 0, none⟩))) w') : wpList Try.prog ops Q (o :: rest) a w :=
  wpList_box_row hg _ x ho d hd N hN.symm _ (by rw [hx]; rfl) h
theorem st_cells {W : World} {N n m : Nat} {v : Sv} (h : W.heap[N]? = some (stRow v n m)) : W.cell? ⟨N, 0, none⟩ = some (.slice v.sa n v.sc) ∧ W.cell? ⟨N, 1, none⟩ = some (.slice v.ba m v.bc) := box2 h
theorem sib_cells {W : World} {N : Nat} {s : Sb} (h : W.heap[N]? = some (sibRow s)) : W.cell? ⟨N, 0, none⟩ = some (.int .u32 (s.a : Int)) ∧ W.cell? ⟨N, 1, none⟩ = some (.int .u64 (s.c : Int)) ∧ W.cell? ⟨N, 2, none⟩ = some (.bool s.gone) ∧ W.cell? ⟨N, 3, none⟩ = some (.string s.val) := box4 h
/-- siblings of one's own -/
def OwnS (w : World) (B : Nat) (l : List Sb) (ao : Option Addr) (c : Nat) : Prop := w.ownsRow B 69 4 (.slice ao l.length c) l.length (flatS l)
/-- a list of siblings behind a slice -/
structure Dw (w : World) (l : List Sb) (ao : Option Addr) (c : Nat) : Prop where
  lies : Lies w ao (flatS l)
  cap : l.length ≤ c
  nil : ao = none → c = 0
theorem Sa.dw {w : World} {l : List Sb} {ao : Option Addr} {c : Nat} (h : Sa w l ao c) : Dw w l ao c := ⟨h.lies, h.cap, h.nil⟩
theorem Dw.below {w w' : World} {l : List Sb} {ao : Option Addr} {c : Nat} (h : Dw w l ao c) (hb : Below w.heap.size w w') : Dw w' l ao c := ⟨h.lies.below hb, h.cap, h.nil⟩
theorem OwnS.dw {w : World} {B : Nat} {l : List Sb} {ao : Option Addr} {c : Nat} (h : OwnS w B l ao c) : Dw w l ao c := ⟨(own_lies h).1, (own_lies h).2.1, (own_lies h).2.2.1⟩
theorem OwnS.below {w w' : World} {B : Nat} {l : List Sb} {ao : Option Addr} {c : Nat} (h : OwnS w B l ao c) (hb : Below w.heap.size w w') : OwnS w' B l ao c := own_below h hb
theorem OwnS.sa {w : World} {B : Nat} {l : List Sb} {ao : Option Addr} {c : Nat} (h : OwnS w B l ao c) (hf : FitS l) (hl : l.length ≤ 3518437208780) : Sa w l ao c := ⟨h.dw.lies, h.dw.cap, h.dw.nil, hf, hl⟩
theorem OwnS.nil (w : World) (B : Nat) : OwnS w B [] none 0 := World.ownsRow_nil _ _ _ _
/-- append of siblings onto siblings of one's own -/
theorem run_putS (w : World) (ty : TypeId) (B : Nat) (l m : List Sb) (ao bo : Option Addr) (c d : Nat) (ho : OwnS w B l ao c) (hm : Dw w m bo d) (hl : l.length + m.length ≤ 3518437208880) (hB : B ≤ w.heap.size) :
    ∃ ao' c' w', (Builtin.append_ #[29, 29] ty #[.slice ao l.length c, .slice bo m.length d]).run Try.prog w = .ok (.slice ao' (l ++ m).length c') w' ∧ OwnS w' B (l ++ m) ao' c' ∧ w.grownBy w' (Value.slice ao l.length c).ownBlock ∧ (∀ g o, ao' = some ⟨g, o, none⟩ → (∃ o', ao = some ⟨g, o', none⟩) ∨ w.heap.size ≤ g) := by
  obtain ⟨i, hi, hz, hs, hby⟩ := sib_parts
  cases bo with
  | none =>
    obtain rfl := hm.nil rfl
    obtain rfl : m = [] := List.eq_nil_of_length_eq_zero (by have := hm.cap; omega)
    rw [List.append_nil]
    exact ⟨ao, c, w, run_append_owned_none (P := Try.prog) (w := w) B 29 ty 69 i 4 undS hi _ _ _ ho, ho, World.grownBy.refl _ _, fun g o h => .inl ⟨o, h⟩⟩
  | some ad =>
    obtain ⟨v', w', hr, h2, h3, h4⟩ := W.run_append_own' (P := Try.prog) w B 29 ty 69 i _ 4 40 undS hi hz hs hby rfl (by decide) (.slice ao l.length c) l.length (flatS l) ho ad m.length d (flatS m) (flatS_len m) (fun j u hu => by
      obtain ⟨g, o, he, hr⟩ := hm.lies (by have := (List.getElem?_eq_some_iff.1 hu).1; omega)
      cases he
      rw [Addr.add_mid]
      exact hr j u hu) (flatS_one m) (by unfold maxLen; omega) (by omega) hB
    obtain ⟨ao', c', rfl⟩ := W.owns_shape h2
    rw [← List.length_append, ← flatS_app] at h2
    rw [← List.length_append] at hr
    refine ⟨ao', c', w', hr, h2, h3, fun g o hg => ?_⟩
    subst hg
    rcases h4 with h4 | ⟨g', h4, h5⟩
    · cases ao with
      | none => cases h4
      | some ad =>
        obtain ⟨g1, o1, i1⟩ := ad
        rcases ho.2 with ⟨hv, _⟩ | ⟨g2, cap2, cur2, hv, _⟩
        · simp at hv
        · simp only [Value.slice.injEq, Option.some.injEq] at hv
          rw [hv.1] at h4 ⊢
          cases h4
          exact .inl ⟨0, rfl⟩
    · cases h4
      exact .inr h5
theorem grown_belowS {w w' : World} {B : Nat} {l : List Sb} {ao : Option Addr} {c : Nat} (ho : OwnS w B l ao c) (hg : w.grownBy w' (Value.slice ao l.length c).ownBlock) (hB : B ≤ w.heap.size) : Below B w w' :=
  (Below.refl B w).grown hg hB (fun k hk => (World.ownsRow.lt ho k hk).1)
theorem wp_putS {o : Oper} {a : Act} {w : World} {K : Act → World → Prop} {Q : Exit → Act → World → Prop} (s x : Operand) (ho : o.op = .call { callee := .builtin .append, args := #[s, x], argTypes := #[29, 29] }) (d : Option Tmp) (hd : o.dst = d)
    (B : Nat) (l m : List Sb) (n1 n2 : Nat) (e1 : n1 = l.length) (e2 : n2 = m.length) (ao bo : Option Addr) (c c2 : Nat) (hs : a.eval s = .slice ao n1 c) (hx : a.eval x = .slice bo n2 c2) (hown : OwnS w B l ao c) (hm : Dw w m bo c2) (hl : l.length + m.length ≤ 3518437208880) (hB : B ≤ w.heap.size)
    (h : ∀ ao' n' c' w', Hid (n' = (l ++ m).length) → Hid (OwnS w' B (l ++ m) ao' c') → Hid (w.grownBy w' (Value.slice ao l.length c).ownBlock) → Hid (Below B w w') → Hid (∀ g o, ao' = some ⟨g, o, none⟩ → (∃ o', ao = some ⟨g, o', none⟩) ∨ w.heap.size ≤ g) → K (a.put d (.slice ao' n' c')) w') : o.wp Try.prog a w K Q := by
  subst hd e1 e2
  obtain ⟨ao', c', w', hr, h1, h2, h3⟩ := run_putS w o.type B l m ao bo c c2 hown hm hl hB
  unfold Oper.wp execOp
  simp only [ho, resolve, invoke, builtin, Sem.run_bind, Sem.run_pure, Result.andThen_ok, List.map_toArray, List.map_cons, List.map_nil, hs, hx, hr]
  exact h ao' _ c' w' rfl h1 h2 (grown_belowS hown h2 hB) h3
theorem wpList_putS {ops : Array Oper} {rest : List Oper} {o : Oper} {a : Act} {w : World} {Q : Exit → Act → World → Prop} (hgd : o.guard = none) (s x : Operand) (ho : o.op = .call { callee := .builtin .append, args := #[s, x], argTypes := #[29, 29] }) (d : Option Tmp) (hd : o.dst = d)
    (B : Nat) (l m : List Sb) (n1 n2 : Nat) (e1 : n1 = l.length) (e2 : n2 = m.length) (ao bo : Option Addr) (c c2 : Nat) (hs : a.eval s = .slice ao n1 c) (hx : a.eval x = .slice bo n2 c2) (hown : OwnS w B l ao c) (hm : Dw w m bo c2) (hl : l.length + m.length ≤ 3518437208880) (hB : B ≤ w.heap.size)
    (h : ∀ ao' n' c' w', Hid (n' = (l ++ m).length) → Hid (OwnS w' B (l ++ m) ao' c') → Hid (w.grownBy w' (Value.slice ao l.length c).ownBlock) → Hid (Below B w w') → Hid (∀ g o, ao' = some ⟨g, o, none⟩ → (∃ o', ao = some ⟨g, o', none⟩) ∨ w.heap.size ≤ g) → wpList Try.prog ops Q rest (a.put d (.slice ao' n' c')) w') : wpList Try.prog ops Q (o :: rest) a w := by
  subst hd e1 e2
  refine wpList_plain hgd fun K hK => ?_
  obtain ⟨ao', c', w', hr, h1, h2, h3⟩ := run_putS w o.type B l m ao bo c c2 hown hm hl hB
  unfold Oper.wp execOp
  simp only [ho, resolve, invoke, builtin, Sem.run_bind, Sem.run_pure, Result.andThen_ok, List.map_toArray, List.map_cons, List.map_nil, hs, hx, hr]
  exact hK _ _ (h ao' _ c' w' rfl h1 h2 (grown_belowS hown h2 hB) h3)
theorem bsS (W : World) (x : Sb) : (Instr.buildSlice 29 1 #[(0, x.v)]).run Try.prog W = .ok (.slice (some ⟨W.heap.size, 0, none⟩) 1 1) (W.alloc (.cells #[.int .u32 (x.a : Int), .int .u64 (x.c : Int), .bool x.gone, .string x.val] 69)) := by kernel_rfl
theorem Dw.one (W : World) (x : Sb) (t : TypeId) : Dw (W.alloc (.cells #[.int .u32 (x.a : Int), .int .u64 (x.c : Int), .bool x.gone, .string x.val] t)) [x] (some ⟨W.heap.size, 0, none⟩) 1 :=
  ⟨fun _ => ⟨_, 0, rfl, fun j v hv => by
    have h1 : (W.alloc (.cells #[.int .u32 (x.a : Int), .int .u64 (x.c : Int), .bool x.gone, .string x.val] t)).heap[W.heap.size]? = some (.cells #[.int .u32 (x.a : Int), .int .u64 (x.c : Int), .bool x.gone, .string x.val] t (0, 0)) := heap_alloc_new _ _
    simp only [World.cell?, h1, Nat.zero_add]
    simpa [flatS, Sb.cs] using hv⟩, by simp, fun e => by cases e⟩
/-- a list without its first -/
theorem tailS (w : World) (q : Sb) (l : List Sb) (g o c : Nat) (h : Dw w (q :: l) (some ⟨g, o, none⟩) c) : ∃ ao' c', Dw w l ao' c' ∧ ∀ W : World, (Instr.slice 29 (.slice (some ⟨g, o, none⟩) (l.length + 1) c) (some (.int .i64 1)) none none).run Try.prog W = .ok (.slice ao' l.length c') W := by
  have hc := h.cap
  rw [List.length_cons] at hc
  have he : Try.prog.elem 29 = 69 := by kernel_rfl
  refine ⟨if c = 1 then some ⟨g, o, none⟩ else some ⟨g, o + 4, none⟩, c - 1, ⟨fun h0 => ?_, by omega, fun e => by split at e <;> cases e⟩, fun W => ?_⟩
  · rw [flatS_len] at h0
    rw [if_neg (by omega)]
    obtain ⟨g', o', e, hr⟩ := h.lies (by rw [flatS_len]; simp)
    cases e
    refine ⟨g, o + 4, rfl, fun j v hv => ?_⟩
    have := hr (j + 4) v (by
      rw [show flatS (q :: l) = .int .u32 (q.a : Int) :: .int .u64 (q.c : Int) :: .bool q.gone :: .string q.val :: flatS l from rfl]
      simpa using hv)
    rw [show o + 4 + j = o + (j + 4) by omega]
    exact this
  · rw [run_slice_l W 29 _ _ _ (by rw [he]; exact undS) .i64 1 (by omega) (by omega), he, sizeN (n := 4) (by kernel_rfl)]
    simp only [Result.andThen_ok, sliced, Option.map_some, Addr.add_mid]
    congr 1
end Go.Proofs.Ytkcbljmjhlnjpaa
namespace Go.Proofs.Ytkcbljmjhlnjpaa
open Go.RowKit Go.Lib
open Classical in
noncomputable def ahB (d e : Nat × Nat) : Bool := decide (ah d e)
set_option maxRecDepth 100000 in
set_option maxHeartbeats 2000000 in
theorem dAhead (pa pc qa qc : Nat) (u : World) : Calls Try.prog 123 #[.agg #[.int .u32 (pa : Int), .int .u64 (pc : Int)], .agg #[.int .u32 (qa : Int), .int .u64 (qc : Int)]] u fun e u' => e = .returned (.bool (ahB (pa, pc) (qa, qc))) ∧ Below u.heap.size u u' := by
  obtain ⟨N, hN⟩ : ∃ N, N = u.heap.size := ⟨_, rfl⟩
  have HN := hide hN
  rw [← hN]
  clear hN
  have HT : Hid (ah (pa, pc) (qa, qc) → ahB (pa, pc) (qa, qc) = true) := fun h => decide_eq_true h
  have HF : Hid (¬ ah (pa, pc) (qa, qc) → ahB (pa, pc) (qa, qc) = false) := fun h => decide_eq_false h
  generalize ahB (pa, pc) (qa, qc) = r at *
  by_cases h1 : pa < qa
  · have h1i : (pa : Int) < (qa : Int) := by omega
    have HR := hide (unhide HT (.inl h1))
    clear HT HF
    go_enter Try.func123, Try.ntmps123
    go_wp2_with (first
      | ((with_reducible refine wpList_box_dot (by rfl) (.tmp 0) (by rfl) (some 2) (by rfl) N (unhide HN) (pa : Int) (pc : Int) (by with_unfolding_all rfl) ?_); intro W1 HX1 HB1 HS1; simp only [Act.put, List.setIfInBounds_toArray, List.set_cons_zero, List.set_cons_succ])
      | ((with_reducible refine wpList_box_dot (by rfl) (.tmp 1) (by rfl) (some 3) (by rfl) (N + 1) (unhide HS1).symm (qa : Int) (qc : Int) (by with_unfolding_all rfl) ?_); intro W2 HX2 HB2 HS2; simp only [Act.put, List.setIfInBounds_toArray, List.set_cons_zero, List.set_cons_succ]; obtain ⟨y0, y1⟩ := box2 (unhide HX2); obtain ⟨z0, z1⟩ := box2 (((unhide HB2).block N (Nat.lt_succ_self _)).trans (unhide HX1)))
      | fail)
    go_ret
    exact ⟨by rw [unhide HR]; rfl, (unhide HB1).trans ((unhide HB2).mono (Nat.le_succ _))⟩
  · have h1i : ¬ (pa : Int) < (qa : Int) := by omega
    by_cases h2 : pa = qa
    · by_cases h3 : pc < qc
      · have h3i : (pc : Int) < (qc : Int) := by omega
        have HR := hide (unhide HT (.inr ⟨h2, h3⟩))
        subst h2
        clear HT HF
        go_enter Try.func123, Try.ntmps123
        go_wp2_with (first
          | ((with_reducible refine wpList_box_dot (by rfl) (.tmp 0) (by rfl) (some 2) (by rfl) N (unhide HN) (pa : Int) (pc : Int) (by with_unfolding_all rfl) ?_); intro W1 HX1 HB1 HS1; simp only [Act.put, List.setIfInBounds_toArray, List.set_cons_zero, List.set_cons_succ])
          | ((with_reducible refine wpList_box_dot (by rfl) (.tmp 1) (by rfl) (some 3) (by rfl) (N + 1) (unhide HS1).symm (pa : Int) (qc : Int) (by with_unfolding_all rfl) ?_); intro W2 HX2 HB2 HS2; simp only [Act.put, List.setIfInBounds_toArray, List.set_cons_zero, List.set_cons_succ]; obtain ⟨y0, y1⟩ := box2 (unhide HX2); obtain ⟨z0, z1⟩ := box2 (((unhide HB2).block N (Nat.lt_succ_self _)).trans (unhide HX1)))
          | fail)
        go_ret
        exact ⟨by rw [unhide HR]; rfl, (unhide HB1).trans ((unhide HB2).mono (Nat.le_succ _))⟩
      · have h3i : ¬ (pc : Int) < (qc : Int) := by omega
        have HR := hide (unhide HF (by unfold ah; simp only; omega))
        subst h2
        clear HT HF
        go_enter Try.func123, Try.ntmps123
        go_wp2_with (first
          | ((with_reducible refine wpList_box_dot (by rfl) (.tmp 0) (by rfl) (some 2) (by rfl) N (unhide HN) (pa : Int) (pc : Int) (by with_unfolding_all rfl) ?_); intro W1 HX1 HB1 HS1; simp only [Act.put, List.setIfInBounds_toArray, List.set_cons_zero, List.set_cons_succ])
          | ((with_reducible refine wpList_box_dot (by rfl) (.tmp 1) (by rfl) (some 3) (by rfl) (N + 1) (unhide HS1).symm (pa : Int) (qc : Int) (by with_unfolding_all rfl) ?_); intro W2 HX2 HB2 HS2; simp only [Act.put, List.setIfInBounds_toArray, List.set_cons_zero, List.set_cons_succ]; obtain ⟨y0, y1⟩ := box2 (unhide HX2); obtain ⟨z0, z1⟩ := box2 (((unhide HB2).block N (Nat.lt_succ_self _)).trans (unhide HX1)))
          | fail)
        go_ret
        exact ⟨by rw [unhide HR]; rfl, (unhide HB1).trans ((unhide HB2).mono (Nat.le_succ _))⟩
    · have h2i : ¬ (pa : Int) = (qa : Int) := by omega
      have h2b : ((pa : Int) == (qa : Int)) = false := by simpa using h2i
      have HR := hide (unhide HF (by unfold ah; simp only; omega))
      clear HT HF
      go_enter Try.func123, Try.ntmps123
      go_wp2_with (first
        | ((with_reducible refine wpList_box_dot (by rfl) (.tmp 0) (by rfl) (some 2) (by rfl) N (unhide HN) (pa : Int) (pc : Int) (by with_unfolding_all rfl) ?_); intro W1 HX1 HB1 HS1; simp only [Act.put, List.setIfInBounds_toArray, List.set_cons_zero, List.set_cons_succ])
        | ((with_reducible refine wpList_box_dot (by rfl) (.tmp 1) (by rfl) (some 3) (by rfl) (N + 1) (unhide HS1).symm (qa : Int) (qc : Int) (by with_unfolding_all rfl) ?_); intro W2 HX2 HB2 HS2; simp only [Act.put, List.setIfInBounds_toArray, List.set_cons_zero, List.set_cons_succ]; obtain ⟨y0, y1⟩ := box2 (unhide HX2); obtain ⟨z0, z1⟩ := box2 (((unhide HB2).block N (Nat.lt_succ_self _)).trans (unhide HX1)))
        | fail)
      go_ret
      exact ⟨by rw [unhide HR]; rfl, (unhide HB1).trans ((unhide HB2).mono (Nat.le_succ _))⟩
/- a content's block -/
theorem zeroCt : ((Try.prog.info? 124).bind (·.zero)).map (·.cells) = some #[.bool false, .string ⟨#[]⟩] := by kernel_rfl
theorem ctInfo : (Try.prog.info? 124).map (·.size) = some 2 := by kernel_rfl
theorem ctUnd : Try.prog.underlying 124 = some (.struct (match Try.prog.underlying 124 with | some (.struct fs) => fs | _ => #[])) := by kernel_rfl
theorem ct_one (g : Bool) (v : ByteArray) : (#[.bool g, .string v] : Array Value).all (·.oneCell') = true := by
  rw [Array.all_eq_true']
  intro v hv
  simp only [List.mem_toArray, List.mem_cons, List.not_mem_nil, or_false] at hv
  rcases hv with rfl | rfl <;> rfl
theorem wpList_alloc_ct {ops : Array Oper} {rest : List Oper} {o : Oper} {a : Act} {w : World} {Q : Exit → Act → World → Prop} (hg : o.guard = none) (ho : o.op = .alloc 124) (d : Option Tmp) (hd : o.dst = d) (N : Nat) (hN : N = w.heap.size)
    (h : ∀ w', Hid (w'.heap[N]? = some (.cells #[.bool false, .string ⟨#[]⟩] 124 (0, 0))) → Hid (Below N w w') → Hid (w'.heap.size = N + 1) → wpList Try.prog ops Q rest (a.put d (.pointer (some ⟨N, 0, none⟩))) w') : wpList Try.prog ops Q (o :: rest) a w :=
  wpList_alloc_row hg _ ho d hd N hN.symm _ zeroCt h
theorem wpList_store_ct {ops : Array Oper} {rest : List Oper} {o : Oper} {a : Act} {w : World} {Q : Exit → Act → World → Prop} (hgd : o.guard = none) (x y : Operand) (ho : o.op = .store 124 x y) (g : Nat) (b : Bool) (v : ByteArray) (hx : a.eval x = .pointer (some ⟨g, 0, none⟩)) (hy : a.eval y = .agg #[.bool b, .string v])
    {q0 q1 : Value} (hg : w.heap[g]? = some (.cells #[q0, q1] 124 (0, 0)))
    (h : ∀ w', Hid (w'.heap[g]? = some (.cells #[.bool b, .string v] 124 (0, 0))) → Hid (w' = w.setRow g #[.bool b, .string v]) → wpList Try.prog ops Q rest (a.put o.dst undef) w') : wpList Try.prog ops Q (o :: rest) a w :=
  wpList_store_hid hgd _ x y ho g _ hx hy _ _ hg ctInfo rfl (ct_one _ _) h
theorem wpList_box_ct {ops : Array Oper} {rest : List Oper} {o : Oper} {a : Act} {w : World} {Q : Exit → Act → World → Prop} (hg : o.guard = none) (x : Operand) (ho : o.op = .box 124 x) (d : Option Tmp) (hd : o.dst = d) (N : Nat) (hN : N = w.heap.size) (b : Bool) (v : ByteArray) (hx : a.eval x = .agg #[.bool b, .string v])
    (h : ∀ w', Hid (w'.heap[N]? = some (.cells #[.bool b, .string v] 124 (0, 0))) → Hid (Below N w w') → Hid (w'.heap.size = N + 1) → wpList Try.prog ops Q rest (a.put d (.pointer (some ⟨N, 0, none⟩))) w') : wpList Try.prog ops Q (o :: rest) a w :=
  wpList_box_row hg _ x ho d hd N hN.symm _ (by rw [hx]; rfl) h
set_option maxRecDepth 100000 in
set_option maxHeartbeats 2000000 in
theorem dContentOf (s : Sb) (u : World) : Calls Try.prog 125 #[s.v] u fun e u' => e = .returned (.agg #[.bool s.gone, .string s.val]) ∧ Below u.heap.size u u' := by
  obtain ⟨N, hN⟩ : ∃ N, N = u.heap.size := ⟨_, rfl⟩
  have HN := hide hN
  rw [← hN]
  clear hN
  go_enter Try.func125, Try.ntmps125
  go_wp2_with (first
    | ((with_reducible refine wpList_box_sib (by rfl) (.tmp 0) (by rfl) (some 1) (by rfl) N (unhide HN) s (by with_unfolding_all rfl) ?_); intro W1 HX1 HB1 HS1; simp only [Act.put, List.setIfInBounds_toArray, List.set_cons_zero, List.set_cons_succ])
    | ((with_reducible refine wpList_alloc_ct (by rfl) (by rfl) (some 2) (by rfl) (N + 1) (unhide HS1).symm ?_); intro W2 HX2 HB2 HS2; simp only [Act.put, List.setIfInBounds_toArray, List.set_cons_zero, List.set_cons_succ]; obtain ⟨z0, z1, z2, z3⟩ := sib_cells (((unhide HB2).block N (Nat.lt_succ_self _)).trans (unhide HX1)))
    | ((with_reducible refine wpList_store_ct (by rfl) (.tmp 2) (.tmp 7) (by rfl) (N + 1) s.gone s.val (by with_unfolding_all rfl) (by with_unfolding_all rfl) (unhide HX2) ?_); intro W3 HX3 HE3; simp only [Act.put])
    | fail)
  refine bodyPost_ret (results_cell rfl _ _ (N + 1) 124 #[.bool s.gone, .string s.val] (0, 0) _ rfl (unhide HX3) ctUnd rfl ctInfo) rfl ?_
  exact ⟨rfl, by rw [unhide HE3]; exact belowRow ((unhide HB1).trans ((unhide HB2).mono (Nat.le_succ _))) (Nat.le_succ _) _⟩
end Go.Proofs.Ytkcbljmjhlnjpaa
namespace Go.Proofs.Ytkcbljmjhlnjpaa
open Go.RowKit Go.Lib
noncomputable def ctF (i : Nat) : Field := (Try.prog.fieldsOf 124).getD i default
theorem ctFs : (Try.prog.fieldsOf 124).toList = [ctF 0, ctF 1] := by kernel_rfl
theorem ctnm0 : (ctF 0).name ≠ "_" := of_decide_eq_true (by kernel_rfl)
theorem ctnm1 : (ctF 1).name ≠ "_" := of_decide_eq_true (by kernel_rfl)
section
variable (g h : Bool) (a b : ByteArray) (u : World)
theorem ctpt0 : (part (ctF 0).type #[.bool g, .string a] (ctF 0).offset).run Try.prog u = .ok (.bool g) u := by kernel_rfl
theorem ctpt1 : (part (ctF 1).type #[.bool g, .string a] (ctF 1).offset).run Try.prog u = .ok (.string a) u := by kernel_rfl
theorem cteq0 : (Op.equalIn 9999 (ctF 0).type (.bool g) (.bool h)).run Try.prog u = .ok (g == h) u := run_equalIn_bool' u 9998 (ctF 0).type g h (by kernel_rfl)
theorem cteq1 : (Op.equalIn 9999 (ctF 1).type (.string a) (.string b)).run Try.prog u = .ok (a.toList == b.toList) u := run_equalIn_string u 9998 (ctF 1).type a b (by kernel_rfl)
theorem cteqFs : (Op.eqFields 9999 #[.bool g, .string a] #[.bool h, .string b] (Try.prog.fieldsOf 124).toList).run Try.prog u = .ok ((g == h) && (a.toList == b.toList)) u := by
  rw [ctFs]
  have h1 : (Op.eqFields 9999 #[.bool g, .string a] #[.bool h, .string b] [ctF 1]).run Try.prog u = .ok (a.toList == b.toList) u := by
    simp only [Op.eqFields, if_pos ctnm1, Sem.run_bind, ctpt1, cteq1, Result.andThen_ok]
    cases (a.toList == b.toList) <;> simp
  rw [Op.eqFields, if_pos ctnm0]
  simp only [Sem.run_bind, ctpt0, cteq0, Result.andThen_ok]
  cases (g == h)
  · simp
  · simp only [Bool.not_true, Bool.false_eq_true, if_false, Bool.true_and]
    exact h1
theorem eqlCt : (binOp .eql 124 (.agg #[.bool g, .string a]) (.agg #[.bool h, .string b])).run Try.prog u = .ok (.bool ((g == h) && (a.toList == b.toList))) u := by
  rw [run_eql_struct, run_equalIn_agg u 9999 124 _ _ (by kernel_rfl) (by kernel_rfl), cteqFs]
  rfl
end
noncomputable def sbF (i : Nat) : Field := (Try.prog.fieldsOf 69).getD i default
theorem sbFs : (Try.prog.fieldsOf 69).toList = [sbF 0, sbF 1, sbF 2] := by kernel_rfl
theorem sbnm0 : (sbF 0).name ≠ "_" := of_decide_eq_true (by kernel_rfl)
theorem sbnm1 : (sbF 1).name ≠ "_" := of_decide_eq_true (by kernel_rfl)
theorem sbnm2 : (sbF 2).name ≠ "_" := of_decide_eq_true (by kernel_rfl)
section
variable (a b c d : Int) (g h : Bool) (v w : ByteArray) (u : World)
theorem sbpt0 : (part (sbF 0).type #[.int .u32 a, .int .u64 b, .bool g, .string v] (sbF 0).offset).run Try.prog u = .ok (.agg #[.int .u32 a, .int .u64 b]) u := by kernel_rfl
theorem sbpt1 : (part (sbF 1).type #[.int .u32 a, .int .u64 b, .bool g, .string v] (sbF 1).offset).run Try.prog u = .ok (.bool g) u := by kernel_rfl
theorem sbpt2 : (part (sbF 2).type #[.int .u32 a, .int .u64 b, .bool g, .string v] (sbF 2).offset).run Try.prog u = .ok (.string v) u := by kernel_rfl
theorem deqF0 : (Op.equalIn 9998 (dF 0).type (.int .u32 a) (.int .u32 b)).run Try.prog u = .ok (a == b) u := run_equalIn_int u 9997 (dF 0).type .u32 .u32 a b (by kernel_rfl)
theorem deqF1 : (Op.equalIn 9998 (dF 1).type (.int .u64 a) (.int .u64 b)).run Try.prog u = .ok (a == b) u := run_equalIn_int u 9997 (dF 1).type .u64 .u64 a b (by kernel_rfl)
theorem deqFs8 : (Op.eqFields 9998 #[.int .u32 a, .int .u64 b] #[.int .u32 c, .int .u64 d] (Try.prog.fieldsOf 53).toList).run Try.prog u = .ok ((a == c) && (b == d)) u := by
  rw [dFs]
  have h1 : (Op.eqFields 9998 #[.int .u32 a, .int .u64 b] #[.int .u32 c, .int .u64 d] [dF 1]).run Try.prog u = .ok (b == d) u := by
    simp only [Op.eqFields, if_pos dnm1, Sem.run_bind, dpt1, deqF1, Result.andThen_ok]
    cases (b == d) <;> simp
  rw [Op.eqFields, if_pos dnm0]
  simp only [Sem.run_bind, dpt0, deqF0, Result.andThen_ok]
  cases (a == c)
  · simp
  · simp only [Bool.not_true, Bool.false_eq_true, if_false, Bool.true_and]
    exact h1
theorem sbT0 : (sbF 0).type = 53 := by kernel_rfl
theorem sbeq0 : (Op.equalIn 9999 (sbF 0).type (.agg #[.int .u32 a, .int .u64 b]) (.agg #[.int .u32 c, .int .u64 d])).run Try.prog u = .ok ((a == c) && (b == d)) u := by
  rw [sbT0, run_equalIn_agg u 9998 53 _ _ (by kernel_rfl) (by kernel_rfl), deqFs8]
theorem sbeq1 : (Op.equalIn 9999 (sbF 1).type (.bool g) (.bool h)).run Try.prog u = .ok (g == h) u := run_equalIn_bool' u 9998 (sbF 1).type g h (by kernel_rfl)
theorem sbeq2 : (Op.equalIn 9999 (sbF 2).type (.string v) (.string w)).run Try.prog u = .ok (v.toList == w.toList) u := run_equalIn_string u 9998 (sbF 2).type v w (by kernel_rfl)
theorem sbeqFs : (Op.eqFields 9999 #[.int .u32 a, .int .u64 b, .bool g, .string v] #[.int .u32 c, .int .u64 d, .bool h, .string w] (Try.prog.fieldsOf 69).toList).run Try.prog u = .ok (((a == c) && (b == d)) && ((g == h) && (v.toList == w.toList))) u := by
  rw [sbFs]
  have h1 : (Op.eqFields 9999 #[.int .u32 a, .int .u64 b, .bool g, .string v] #[.int .u32 c, .int .u64 d, .bool h, .string w] [sbF 2]).run Try.prog u = .ok (v.toList == w.toList) u := by
    simp only [Op.eqFields, if_pos sbnm2, Sem.run_bind, sbpt2, sbeq2, Result.andThen_ok]
    cases (v.toList == w.toList) <;> simp
  have h2 : (Op.eqFields 9999 #[.int .u32 a, .int .u64 b, .bool g, .string v] #[.int .u32 c, .int .u64 d, .bool h, .string w] [sbF 1, sbF 2]).run Try.prog u = .ok ((g == h) && (v.toList == w.toList)) u := by
    rw [Op.eqFields, if_pos sbnm1]
    simp only [Sem.run_bind, sbpt1, sbeq1, Result.andThen_ok]
    cases (g == h)
    · simp
    · simp only [Bool.not_true, Bool.false_eq_true, if_false, Bool.true_and]
      exact h1
  rw [Op.eqFields, if_pos sbnm0]
  simp only [Sem.run_bind, sbpt0, sbeq0, Result.andThen_ok]
  cases ((a == c) && (b == d))
  · simp
  · simp only [Bool.not_true, Bool.false_eq_true, if_false, Bool.true_and]
    exact h2
end
open Classical in
noncomputable def eqB (x y : Sb) : Bool := decide (x = y)
open Classical in
theorem eqB_true {x y : Sb} : eqB x y = true ↔ x = y := by unfold eqB; exact decide_eq_true_iff
theorem eqB_false {x y : Sb} : eqB x y = false ↔ x ≠ y := by
  rw [← Bool.not_eq_true, eqB_true]
theorem list_beq (a b : ByteArray) : (a.toList == b.toList) = decide (a = b) := by
  rw [Bool.eq_iff_iff, beq_iff_eq, decide_eq_true_eq]
  exact ⟨ba_list, fun h => by rw [h]⟩
theorem sb_all (x y : Sb) : ((((x.a : Int) == (y.a : Int)) && ((x.c : Int) == (y.c : Int))) && ((x.gone == y.gone) && (x.val.toList == y.val.toList))) = eqB x y := by
  rw [beq_nat, beq_nat, list_beq, Bool.eq_iff_iff, eqB_true]
  simp only [Bool.and_eq_true, decide_eq_true_eq, beq_iff_eq]
  constructor
  · rintro ⟨⟨h1, h2⟩, h3, h4⟩; exact Sb.ext' h1 h2 h3 h4
  · rintro rfl; exact ⟨⟨rfl, rfl⟩, rfl, rfl⟩
theorem eqlS (x y : Sb) (u : World) : (binOp .eql 69 x.v y.v).run Try.prog u = .ok (.bool (eqB x y)) u := by
  unfold Sb.v
  rw [run_eql_struct, run_equalIn_agg u 9999 69 _ _ (by kernel_rfl) (by kernel_rfl), sbeqFs, sb_all]
  rfl
theorem neqS (x y : Sb) (u : World) : (binOp .neq 69 x.v y.v).run Try.prog u = .ok (.bool (!(eqB x y))) u := by
  unfold Sb.v
  rw [run_neq_struct, run_equalIn_agg u 9999 69 _ _ (by kernel_rfl) (by kernel_rfl), sbeqFs, sb_all]
  rfl
open Classical in
/-- may a content be -/
noncomputable def mayB (g : Bool) (v : ByteArray) : Bool := decide (if g then v.size = 0 else v.size ≤ 40)
theorem size_zero {v : ByteArray} : v.size = 0 ↔ v = ⟨#[]⟩ := by
  constructor
  · intro h
    cases v with | mk d => simp [ByteArray.size] at h; rw [h]
  · rintro rfl; rfl
set_option maxRecDepth 100000 in
set_option maxHeartbeats 2000000 in
theorem dMayBe (g : Bool) (v : ByteArray) (u : World) (hv : v.size ≤ 140737488355328) : Calls Try.prog 126 #[.agg #[.bool g, .string v]] u fun e u' => e = .returned (.bool (mayB g v)) ∧ Below u.heap.size u u' := by
  obtain ⟨N, hN⟩ : ∃ N, N = u.heap.size := ⟨_, rfl⟩
  have HN := hide hN
  rw [← hN]
  clear hN
  cases g with
  | true =>
    have he : ∀ W : World, (binOp .eql 124 (.agg #[.bool true, .string v]) (.agg #[.bool true, .string ⟨#[]⟩])).run Try.prog W = .ok (.bool (mayB true v)) W := fun W => by
      rw [eqlCt, list_beq]
      simp only [beq_self_eq_true, Bool.true_and]
      congr 2
      unfold mayB
      simp only [if_true]
      rw [Bool.eq_iff_iff, decide_eq_true_eq, decide_eq_true_eq, size_zero]
    generalize mayB true v = r at *
    go_enter Try.func126, Try.ntmps126
    go_wp2_with (first
      | ((with_reducible refine wpList_box_ct (by rfl) (.tmp 0) (by rfl) (some 1) (by rfl) N (unhide HN) true v (by with_unfolding_all rfl) ?_); intro W1 HX1 HB1 HS1; simp only [Act.put, List.setIfInBounds_toArray, List.set_cons_zero, List.set_cons_succ]; obtain ⟨y0, y1⟩ := box2 (unhide HX1))
      | fail)
    go_ret
    exact ⟨rfl, unhide HB1⟩
  | false =>
    rw [show mayB false v = decide (v.size ≤ 40) by unfold mayB; simp]
    have hvi : (v.size : Int) ≤ 140737488355328 := by omega
    by_cases h : v.size ≤ 40
    · have hi : (v.size : Int) ≤ 40 := by omega
      rw [decide_eq_true h]
      go_enter Try.func126, Try.ntmps126
      go_wp2_with (first
        | ((with_reducible refine wpList_box_ct (by rfl) (.tmp 0) (by rfl) (some 1) (by rfl) N (unhide HN) false v (by with_unfolding_all rfl) ?_); intro W1 HX1 HB1 HS1; simp only [Act.put, List.setIfInBounds_toArray, List.set_cons_zero, List.set_cons_succ]; obtain ⟨y0, y1⟩ := box2 (unhide HX1))
        | fail)
      go_ret
      exact ⟨rfl, unhide HB1⟩
    · have hi : ¬ (v.size : Int) ≤ 40 := by omega
      rw [decide_eq_false h]
      go_enter Try.func126, Try.ntmps126
      go_wp2_with (first
        | ((with_reducible refine wpList_box_ct (by rfl) (.tmp 0) (by rfl) (some 1) (by rfl) N (unhide HN) false v (by with_unfolding_all rfl) ?_); intro W1 HX1 HB1 HS1; simp only [Act.put, List.setIfInBounds_toArray, List.set_cons_zero, List.set_cons_succ]; obtain ⟨y0, y1⟩ := box2 (unhide HX1))
        | fail)
      go_ret
      exact ⟨rfl, unhide HB1⟩
set_option maxRecDepth 100000 in
set_option maxHeartbeats 2000000 in
theorem dBelowC (g h : Bool) (v w : ByteArray) (u : World) : Calls Try.prog 156 #[.agg #[.bool g, .string v], .agg #[.bool h, .string w]] u fun e u' => e = .returned (.bool (ctl g v h w)) ∧ Below u.heap.size u u' := by
  obtain ⟨N, hN⟩ : ∃ N, N = u.heap.size := ⟨_, rfl⟩
  have HN := hide hN
  rw [← hN]
  clear hN
  cases g <;> cases h
  · rw [show ctl false v false w = lt v w from rfl]
    go_enter Try.func156, Try.ntmps156
    go_wp2_with (first
      | ((with_reducible refine wpList_box_ct (by rfl) (.tmp 0) (by rfl) (some 2) (by rfl) N (unhide HN) false v (by with_unfolding_all rfl) ?_); intro W1 HX1 HB1 HS1; simp only [Act.put, List.setIfInBounds_toArray, List.set_cons_zero, List.set_cons_succ])
      | ((with_reducible refine wpList_box_ct (by rfl) (.tmp 1) (by rfl) (some 3) (by rfl) (N + 1) (unhide HS1).symm false w (by with_unfolding_all rfl) ?_); intro W2 HX2 HB2 HS2; simp only [Act.put, List.setIfInBounds_toArray, List.set_cons_zero, List.set_cons_succ]; obtain ⟨y0, y1⟩ := box2 (unhide HX2); obtain ⟨z0, z1⟩ := box2 (((unhide HB2).block N (Nat.lt_succ_self _)).trans (unhide HX1)))
      | fail)
    go_ret
    exact ⟨rfl, (unhide HB1).trans ((unhide HB2).mono (Nat.le_succ _))⟩
  · rw [show ctl false v true w = false from rfl]
    go_enter Try.func156, Try.ntmps156
    go_wp2_with (first
      | ((with_reducible refine wpList_box_ct (by rfl) (.tmp 0) (by rfl) (some 2) (by rfl) N (unhide HN) false v (by with_unfolding_all rfl) ?_); intro W1 HX1 HB1 HS1; simp only [Act.put, List.setIfInBounds_toArray, List.set_cons_zero, List.set_cons_succ])
      | ((with_reducible refine wpList_box_ct (by rfl) (.tmp 1) (by rfl) (some 3) (by rfl) (N + 1) (unhide HS1).symm true w (by with_unfolding_all rfl) ?_); intro W2 HX2 HB2 HS2; simp only [Act.put, List.setIfInBounds_toArray, List.set_cons_zero, List.set_cons_succ]; obtain ⟨y0, y1⟩ := box2 (unhide HX2); obtain ⟨z0, z1⟩ := box2 (((unhide HB2).block N (Nat.lt_succ_self _)).trans (unhide HX1)))
      | fail)
    go_ret
    exact ⟨rfl, (unhide HB1).trans ((unhide HB2).mono (Nat.le_succ _))⟩
  · rw [show ctl true v false w = true from rfl]
    go_enter Try.func156, Try.ntmps156
    go_wp2_with (first
      | ((with_reducible refine wpList_box_ct (by rfl) (.tmp 0) (by rfl) (some 2) (by rfl) N (unhide HN) true v (by with_unfolding_all rfl) ?_); intro W1 HX1 HB1 HS1; simp only [Act.put, List.setIfInBounds_toArray, List.set_cons_zero, List.set_cons_succ])
      | ((with_reducible refine wpList_box_ct (by rfl) (.tmp 1) (by rfl) (some 3) (by rfl) (N + 1) (unhide HS1).symm false w (by with_unfolding_all rfl) ?_); intro W2 HX2 HB2 HS2; simp only [Act.put, List.setIfInBounds_toArray, List.set_cons_zero, List.set_cons_succ]; obtain ⟨y0, y1⟩ := box2 (unhide HX2); obtain ⟨z0, z1⟩ := box2 (((unhide HB2).block N (Nat.lt_succ_self _)).trans (unhide HX1)))
      | fail)
    go_ret
    exact ⟨rfl, (unhide HB1).trans ((unhide HB2).mono (Nat.le_succ _))⟩
  · rw [show ctl true v true w = lt v w from rfl]
    go_enter Try.func156, Try.ntmps156
    go_wp2_with (first
      | ((with_reducible refine wpList_box_ct (by rfl) (.tmp 0) (by rfl) (some 2) (by rfl) N (unhide HN) true v (by with_unfolding_all rfl) ?_); intro W1 HX1 HB1 HS1; simp only [Act.put, List.setIfInBounds_toArray, List.set_cons_zero, List.set_cons_succ])
      | ((with_reducible refine wpList_box_ct (by rfl) (.tmp 1) (by rfl) (some 3) (by rfl) (N + 1) (unhide HS1).symm true w (by with_unfolding_all rfl) ?_); intro W2 HX2 HB2 HS2; simp only [Act.put, List.setIfInBounds_toArray, List.set_cons_zero, List.set_cons_succ]; obtain ⟨y0, y1⟩ := box2 (unhide HX2); obtain ⟨z0, z1⟩ := box2 (((unhide HB2).block N (Nat.lt_succ_self _)).trans (unhide HX1)))
      | fail)
    go_ret
    exact ⟨rfl, (unhide HB1).trans ((unhide HB2).mono (Nat.le_succ _))⟩
end Go.Proofs.Ytkcbljmjhlnjpaa
