/- Segments: what SegmentMerges tells; digit; keys; the law's merged. Written by mkshj.py. -/
import Derived.Test.YtbahlfpcbplofaaShb
import Derived.Test.YtbahlfpcbplofaaSgp
namespace Go.Proofs.Ytbahlfpcbplofaa.S
open Go.RowKit Go.Lib
abbrev To := ByteArray × Int × It × UInt8
def tos (x : To) : List Value := [.string x.1, .int .i64 x.2.1, .string x.2.2.1.1, .int .i64 x.2.2.1.2, .int .u8 (x.2.2.2.toNat : Int)]
def RT : Rec Try.prog To where
  st := 53
  et := 63
  n := 5
  bts := 56
  cs := tos
  hn := by decide
  len := fun _ => rfl
  one := fun x v hv => by
    simp only [tos, List.mem_cons, List.not_mem_nil, or_false] at hv
    rcases hv with rfl | rfl | rfl | rfl | rfl <;> rfl
  und := by kernel_rfl
  info := by
    have h : (Try.prog.info? 63).map (fun i => (i.zero, i.size, i.bytes)) = some (some (.agg #[.string ⟨#[]⟩, .int .i64 0, .string ⟨#[]⟩, .int .i64 0, .int .u8 0]), 5, 56) := by kernel_rfl
    obtain ⟨i, hi, h2⟩ := Option.map_eq_some_iff.1 h
    simp only [Prod.mk.injEq] at h2
    exact ⟨i, _, hi, h2.1, rfl, h2.2.1, h2.2.2⟩
  pos := by decide
theorem ixTo (g o n c i : Nat) (hi : i < n) (W : World) : (Instr.indexAt 53 (.slice (some ⟨g, o, none⟩) n c) (.int .i64 (i : Int))).run Try.prog W = .ok (.pointer (some ⟨g, o + i * 5, none⟩)) W := RT.ix g o n c i hi W
structure Ol (w : World) (l : List To) (ao : Option Addr) (n c : Nat) : Prop extends RT.At w l ao c where
  hn : n = l.length
theorem Ol.below {w w' : World} {l : List To} {ao : Option Addr} {n c : Nat} (h : Ol w l ao n c) (hb : Below w.heap.size w w') : Ol w' l ao n c := ⟨h.toAt.below hb, h.hn⟩
theorem Ol.to {w : World} {l : List To} {ao : Option Addr} {n c : Nat} (h : Ol w l ao n c) {i : Nat} (hi : i < l.length) : ∃ g o, ao = some ⟨g, o, none⟩ ∧ w.cell? ⟨g, o + i * 5, none⟩ = some (.string l[i].1) ∧ w.cell? ⟨g, o + i * 5 + 1, none⟩ = some (.int .i64 l[i].2.1) ∧ w.cell? ⟨g, o + i * 5 + 2, none⟩ = some (.string l[i].2.2.1.1) ∧ w.cell? ⟨g, o + i * 5 + 3, none⟩ = some (.int .i64 l[i].2.2.1.2) ∧ w.cell? ⟨g, o + i * 5 + 4, none⟩ = some (.int .u8 (l[i].2.2.2.toNat : Int)) := by
  obtain ⟨g, o, e, h1⟩ := h.toAt.get hi
  exact ⟨g, o, e, h1 0 _ rfl, h1 1 _ rfl, h1 2 _ rfl, h1 3 _ rfl, h1 4 _ rfl⟩
theorem RT.one (W : World) (k : ByteArray) (h : Int) (xk : ByteArray) (xn : Int) (y : UInt8) (t : TypeId) : RT.At (W.alloc (.cells #[.string k, .int .i64 h, .string xk, .int .i64 xn, .int .u8 (y.toNat : Int)] t)) [(k, h, (xk, xn), y)] (some ⟨W.heap.size, 0, none⟩) 1 :=
  ⟨fun _ => ⟨_, 0, rfl, fun j v hv => by
    have h1 : (W.alloc (.cells #[.string k, .int .i64 h, .string xk, .int .i64 xn, .int .u8 (y.toNat : Int)] t)).heap[W.heap.size]? = some (.cells #[.string k, .int .i64 h, .string xk, .int .i64 xn, .int .u8 (y.toNat : Int)] t (0, 0)) := heap_alloc_new _ _
    simp only [World.cell?, h1, Nat.zero_add]
    simpa [Rec.flat, RT, tos] using hv⟩, by simp, (fun e => by cases e), by simp⟩
theorem wp_putT {o : Oper} {a : Act} {w : World} {K : Act → World → Prop} {Q : Exit → Act → World → Prop} (s x : Operand) (ho : o.op = .call { callee := .builtin .append, args := #[s, x], argTypes := #[53, 53] }) (d : Option Tmp) (hd : o.dst = d)
    (B : Nat) (l m : List To) (n1 n2 : Nat) (e1 : n1 = l.length) (e2 : n2 = m.length) (ao bo : Option Addr) (c c2 : Nat) (hs : a.eval s = .slice ao n1 c) (hx : a.eval x = .slice bo n2 c2) (hown : RT.Own w B l ao c) (hm : RT.At w m bo c2) (hl : (l.length + m.length) * 56 ≤ 140737488355328) (hB : B ≤ w.heap.size)
    (h : ∀ ao' n' c' w', Hid (RT.Put w w' B l m ao c ao' n' c') → K (a.put d (.slice ao' n' c')) w') : o.wp Try.prog a w K Q :=
  RT.wp_put s x ho d hd B l m n1 n2 e1 e2 ao bo c c2 hs hx hown hm hl hB h
theorem wpList_putT {ops : Array Oper} {rest : List Oper} {o : Oper} {a : Act} {w : World} {Q : Exit → Act → World → Prop} (hgd : o.guard = none) (s x : Operand) (ho : o.op = .call { callee := .builtin .append, args := #[s, x], argTypes := #[53, 53] }) (d : Option Tmp) (hd : o.dst = d)
    (B : Nat) (l m : List To) (n1 n2 : Nat) (e1 : n1 = l.length) (e2 : n2 = m.length) (ao bo : Option Addr) (c c2 : Nat) (hs : a.eval s = .slice ao n1 c) (hx : a.eval x = .slice bo n2 c2) (hown : RT.Own w B l ao c) (hm : RT.At w m bo c2) (hl : (l.length + m.length) * 56 ≤ 140737488355328) (hB : B ≤ w.heap.size)
    (h : ∀ ao' n' c' w', Hid (RT.Put w w' B l m ao c ao' n' c') → wpList Try.prog ops Q rest (a.put d (.slice ao' n' c')) w') : wpList Try.prog ops Q (o :: rest) a w :=
  RT.wpList_put hgd s x ho d hd B l m n1 n2 e1 e2 ao bo c c2 hs hx hown hm hl hB h
theorem bsT (W : World) (k : ByteArray) (h : Int) (xk : ByteArray) (xn : Int) (y : Int) : (Instr.buildSlice 53 1 #[(0, .agg #[.string k, .int .i64 h, .string xk, .int .i64 xn, .int .u8 y])]).run Try.prog W = .ok (.slice (some ⟨W.heap.size, 0, none⟩) 1 1) (W.alloc (.cells #[.string k, .int .i64 h, .string xk, .int .i64 xn, .int .u8 y] 63)) := by kernel_rfl
/- equality -/
noncomputable def itF (i : Nat) : Field := (Try.prog.fieldsOf 57).getD i default
theorem itFs : (Try.prog.fieldsOf 57).toList = [itF 0, itF 1] := by kernel_rfl
theorem itm0 : (itF 0).name ≠ "_" := of_decide_eq_true (by kernel_rfl)
theorem itm1 : (itF 1).name ≠ "_" := of_decide_eq_true (by kernel_rfl)
noncomputable def toF (i : Nat) : Field := (Try.prog.fieldsOf 63).getD i default
theorem toFs : (Try.prog.fieldsOf 63).toList = [toF 0, toF 1, toF 2, toF 3] := by kernel_rfl
theorem tom0 : (toF 0).name ≠ "_" := of_decide_eq_true (by kernel_rfl)
theorem tom1 : (toF 1).name ≠ "_" := of_decide_eq_true (by kernel_rfl)
theorem tom2 : (toF 2).name ≠ "_" := of_decide_eq_true (by kernel_rfl)
theorem tom3 : (toF 3).name ≠ "_" := of_decide_eq_true (by kernel_rfl)
section
variable (a c : ByteArray) (b d : Int) (u : World)
theorem ipt0 : (part (itF 0).type #[.string a, .int .i64 b] (itF 0).offset).run Try.prog u = .ok (.string a) u := by kernel_rfl
theorem ipt1 : (part (itF 1).type #[.string a, .int .i64 b] (itF 1).offset).run Try.prog u = .ok (.int .i64 b) u := by kernel_rfl
theorem ieq0 (f : Nat) : (Op.equalIn (f + 1) (itF 0).type (.string a) (.string c)).run Try.prog u = .ok (a.toList == c.toList) u := run_equalIn_string u f (itF 0).type a c (by kernel_rfl)
theorem ieq1 (f : Nat) : (Op.equalIn (f + 1) (itF 1).type (.int .i64 b) (.int .i64 d)).run Try.prog u = .ok (b == d) u := run_equalIn_int u f (itF 1).type .i64 .i64 b d (by kernel_rfl)
theorem ieqFs (f : Nat) : (Op.eqFields (f + 1) #[.string a, .int .i64 b] #[.string c, .int .i64 d] (Try.prog.fieldsOf 57).toList).run Try.prog u = .ok ((a.toList == c.toList) && (b == d)) u := by
  rw [itFs]
  have h1 : (Op.eqFields (f + 1) #[.string a, .int .i64 b] #[.string c, .int .i64 d] [itF 1]).run Try.prog u = .ok (b == d) u := by
    simp only [Op.eqFields, if_pos itm1, Sem.run_bind, ipt1, ieq1, Result.andThen_ok]
    cases (b == d) <;> simp
  rw [Op.eqFields, if_pos itm0]
  simp only [Sem.run_bind, ipt0, ieq0, Result.andThen_ok]
  cases (a.toList == c.toList)
  · simp
  · simp only [Bool.not_true, Bool.false_eq_true, if_false, Bool.true_and]
    exact h1
theorem neqIt : (binOp .neq 57 (.agg #[.string a, .int .i64 b]) (.agg #[.string c, .int .i64 d])).run Try.prog u = .ok (.bool (!((a.toList == c.toList) && (b == d)))) u := by
  rw [run_neq_struct, run_equalIn_agg u 9999 57 _ _ (by kernel_rfl) (by kernel_rfl), ieqFs a c b d u 9998]
  rfl
end
theorem neqI (x : It) (u : World) : (binOp .neq 57 (.agg #[.string x.1, .int .i64 x.2]) (.agg #[.string x.1, .int .i64 x.2])).run Try.prog u = .ok (.bool false) u := by
  rw [neqIt]; simp
section
variable (x y : To) (u : World)
theorem tpt0 : (part (toF 0).type (tos x).toArray (toF 0).offset).run Try.prog u = .ok (.string x.1) u := by kernel_rfl
theorem tpt1 : (part (toF 1).type (tos x).toArray (toF 1).offset).run Try.prog u = .ok (.int .i64 x.2.1) u := by kernel_rfl
theorem tpt2 : (part (toF 2).type (tos x).toArray (toF 2).offset).run Try.prog u = .ok (.agg #[.string x.2.2.1.1, .int .i64 x.2.2.1.2]) u := by kernel_rfl
theorem tpt3 : (part (toF 3).type (tos x).toArray (toF 3).offset).run Try.prog u = .ok (.int .u8 (x.2.2.2.toNat : Int)) u := by kernel_rfl
theorem teq0 : (Op.equalIn 9999 (toF 0).type (.string x.1) (.string x.1)).run Try.prog u = .ok true u := by rw [run_equalIn_string u 9998 (toF 0).type _ _ (by kernel_rfl)]; simp
theorem teq1 : (Op.equalIn 9999 (toF 1).type (.int .i64 x.2.1) (.int .i64 x.2.1)).run Try.prog u = .ok true u := (run_equalIn_int u 9998 (toF 1).type .i64 .i64 _ _ (by kernel_rfl)).trans (by simp)
theorem teq2 : (Op.equalIn 9999 (toF 2).type (.agg #[.string x.2.2.1.1, .int .i64 x.2.2.1.2]) (.agg #[.string x.2.2.1.1, .int .i64 x.2.2.1.2])).run Try.prog u = .ok true u := by
  have ht : (toF 2).type = 57 := by kernel_rfl
  rw [ht, run_equalIn_agg u 9998 57 _ _ (by kernel_rfl) (by kernel_rfl), ieqFs _ _ _ _ u 9997]
  simp
theorem teq3 : (Op.equalIn 9999 (toF 3).type (.int .u8 (x.2.2.2.toNat : Int)) (.int .u8 (x.2.2.2.toNat : Int))).run Try.prog u = .ok true u := (run_equalIn_int u 9998 (toF 3).type .u8 .u8 _ _ (by kernel_rfl)).trans (by simp)
theorem teqFs : (Op.eqFields 9999 (tos x).toArray (tos x).toArray (Try.prog.fieldsOf 63).toList).run Try.prog u = .ok true u := by
  rw [toFs]
  have h3 : (Op.eqFields 9999 (tos x).toArray (tos x).toArray [toF 3]).run Try.prog u = .ok true u := by
    rw [Op.eqFields, if_pos tom3]
    simp only [Sem.run_bind, tpt3, teq3, Result.andThen_ok]
    simp [Op.eqFields]
  have h2 : (Op.eqFields 9999 (tos x).toArray (tos x).toArray [toF 2, toF 3]).run Try.prog u = .ok true u := by
    rw [Op.eqFields, if_pos tom2]
    simp only [Sem.run_bind, tpt2, teq2, Result.andThen_ok]
    simpa using h3
  have h1 : (Op.eqFields 9999 (tos x).toArray (tos x).toArray [toF 1, toF 2, toF 3]).run Try.prog u = .ok true u := by
    rw [Op.eqFields, if_pos tom1]
    simp only [Sem.run_bind, tpt1, teq1, Result.andThen_ok]
    simpa using h2
  rw [Op.eqFields, if_pos tom0]
  simp only [Sem.run_bind, tpt0, teq0, Result.andThen_ok]
  simpa using h1
theorem neqT : (binOp .neq 63 (.agg #[.string x.1, .int .i64 x.2.1, .string x.2.2.1.1, .int .i64 x.2.2.1.2, .int .u8 (x.2.2.2.toNat : Int)]) (.agg #[.string x.1, .int .i64 x.2.1, .string x.2.2.1.1, .int .i64 x.2.2.1.2, .int .u8 (x.2.2.2.toNat : Int)])).run Try.prog u = .ok (.bool false) u := by
  have h := teqFs x u
  rw [run_neq_struct, run_equalIn_agg u 9999 63 _ _ (by kernel_rfl) (by kernel_rfl)]
  have e : (tos x).toArray = #[.string x.1, .int .i64 x.2.1, .string x.2.2.1.1, .int .i64 x.2.2.1.2, .int .u8 (x.2.2.2.toNat : Int)] := rfl
  rw [e] at h
  rw [h]
  rfl
end
/- digit; the keys of items -/
def dg (y : UInt8) : ByteArray := Utf8.encode (97 + ((y.toNat % 26 : Nat) : Int))
theorem entDG : ∀ args (w : World), (callFunc 43 args).run Try.prog w = .ok (.enter 43 args) w := by
  intro args w
  go_simp
theorem lDigit (y : UInt8) (W : World) : Calls Try.prog 43 #[.int .u8 (y.toNat : Int)] W fun e W' => e = .returned (.string (dg y)) ∧ W' = W := by
  have hy := y.toNat_lt
  obtain ⟨r, hr⟩ : ∃ r : Nat, r = y.toNat % 26 := ⟨_, rfl⟩
  have hr1 : (y.toNat : Int) % 26 = (r : Int) := by omega
  have hr2 : (y.toNat : Int).tmod 26 = (r : Int) := by rw [Int.tmod_eq_emod_of_nonneg (by omega)]; exact hr1
  have hrb : r < 26 := by omega
  have hw : IntKind.u8.wrap (97 + (r : Int)) = 97 + (r : Int) := by simp [IntKind.wrap, IntKind.bits, IntKind.signed]; omega
  have hw3 : IntKind.i32.wrap (97 + (r : Int)) = 97 + (r : Int) := by rw [IntKind.wrap_i32]; omega
  have HQ : Hid (dg y = Utf8.encode (97 + (r : Int))) := by show dg y = _; unfold dg; rw [← hr]
  obtain ⟨q, hq⟩ : ∃ q, q = Utf8.encode (97 + (r : Int)) := ⟨_, rfl⟩
  rw [← hq] at HQ
  have hcv : ∀ W : World, (convert 21 9 (.int .i32 (97 + (r : Int)))).run Try.prog W = .ok (.string q) W := fun W => by rw [run_convert_int_string W 21 9 .i32 _ (by kernel_rfl) Try.underlying9, hq]
  have hrz : 0 ≤ (r : Int) ∧ (r : Int) < 26 := by omega
  have hyz : 0 ≤ (y.toNat : Int) ∧ (y.toNat : Int) < 256 := by omega
  generalize (y.toNat : Int) = yv at *
  generalize (r : Int) = rv at *
  clear hq hr hrb hy
  go_enter Try.func43, Try.ntmps43
  go_wp2
  go_ret
  exact ⟨by rw [unhide HQ]; rfl, rfl⟩
theorem wpList_box_it {ops : Array Oper} {rest : List Oper} {o : Oper} {a : Act} {w : World} {Q : Exit → Act → World → Prop} (hgd : o.guard = none) (x : Operand) (ho : o.op = .box 57 x) (d : Option Tmp) (hd : o.dst = d) (N : Nat) (hN : N = w.heap.size) (k : ByteArray) (z : Int) (hx : a.eval x = .agg #[.string k, .int .i64 z])
    (h : ∀ w', Hid (w'.heap[N]? = some (itRow k z)) → Hid (Below N w w') → Hid (w'.heap.size = N + 1) → wpList Try.prog ops Q rest (a.put d (.pointer (some ⟨N, 0, none⟩))) w') : wpList Try.prog ops Q (o :: rest) a w := by
  exact wpList_box_row hgd _ x ho d hd N hN.symm _ (by rw [hx]; rfl) h
theorem entKA : ∀ args (w : World), (callFunc 42 args).run Try.prog w = .ok (.enter 42 args) w := by
  intro args w
  go_simp
theorem lKeyA (x : It) (W : World) : Calls Try.prog 42 #[.agg #[.string x.1, .int .i64 x.2]] W fun e W' => e = .returned (.string x.1) ∧ Below W.heap.size W W' := by
  obtain ⟨k, z⟩ := x
  show Calls Try.prog 42 #[.agg #[.string k, .int .i64 z]] W fun e W' => e = .returned (.string k) ∧ Below W.heap.size W W'
  obtain ⟨N, hN⟩ : ∃ N, N = W.heap.size := ⟨_, rfl⟩
  have HN := hide hN
  rw [← hN]
  clear hN
  go_enter Try.func42, Try.ntmps42
  go_wp2_with (first
    | ((with_reducible refine wpList_box_it (by rfl) (.tmp 0) (by rfl) (some 1) (by rfl) N (unhide HN) k z (by with_unfolding_all rfl) ?_); intro W1 HX1 HB1 HS1; simp only [Act.put, List.setIfInBounds_toArray, List.set_cons_zero, List.set_cons_succ]; obtain ⟨c0, c1⟩ := box2 (unhide HX1))
    | fail)
  go_ret
  exact ⟨rfl, unhide HB1⟩
theorem entKB : ∀ args (w : World), (callFunc 46 args).run Try.prog w = .ok (.enter 46 args) w := by
  intro args w
  go_simp
theorem lKeyB (x : It) (W : World) : Calls Try.prog 46 #[.agg #[.string x.1, .int .i64 x.2]] W fun e W' => e = .returned (.string x.1) ∧ Below W.heap.size W W' := by
  obtain ⟨k, z⟩ := x
  show Calls Try.prog 46 #[.agg #[.string k, .int .i64 z]] W fun e W' => e = .returned (.string k) ∧ Below W.heap.size W W'
  obtain ⟨N, hN⟩ : ∃ N, N = W.heap.size := ⟨_, rfl⟩
  have HN := hide hN
  rw [← hN]
  clear hN
  go_enter Try.func46, Try.ntmps46
  go_wp2_with (first
    | ((with_reducible refine wpList_box_it (by rfl) (.tmp 0) (by rfl) (some 1) (by rfl) N (unhide HN) k z (by with_unfolding_all rfl) ?_); intro W1 HX1 HB1 HS1; simp only [Act.put, List.setIfInBounds_toArray, List.set_cons_zero, List.set_cons_succ]; obtain ⟨c0, c1⟩ := box2 (unhide HX1))
    | fail)
  go_ret
  exact ⟨rfl, unhide HB1⟩
theorem entKC : ∀ args (w : World), (callFunc 48 args).run Try.prog w = .ok (.enter 48 args) w := by
  intro args w
  go_simp
theorem lKeyC (x : It) (W : World) : Calls Try.prog 48 #[.agg #[.string x.1, .int .i64 x.2]] W fun e W' => e = .returned (.string x.1) ∧ Below W.heap.size W W' := by
  obtain ⟨k, z⟩ := x
  show Calls Try.prog 48 #[.agg #[.string k, .int .i64 z]] W fun e W' => e = .returned (.string k) ∧ Below W.heap.size W W'
  obtain ⟨N, hN⟩ : ∃ N, N = W.heap.size := ⟨_, rfl⟩
  have HN := hide hN
  rw [← hN]
  clear hN
  go_enter Try.func48, Try.ntmps48
  go_wp2_with (first
    | ((with_reducible refine wpList_box_it (by rfl) (.tmp 0) (by rfl) (some 1) (by rfl) N (unhide HN) k z (by with_unfolding_all rfl) ?_); intro W1 HX1 HB1 HS1; simp only [Act.put, List.setIfInBounds_toArray, List.set_cons_zero, List.set_cons_succ]; obtain ⟨c0, c1⟩ := box2 (unhide HX1))
    | fail)
  go_ret
  exact ⟨rfl, unhide HB1⟩
/- merged -/
def toL (t : Tell It UInt8) : To := (t.1, (match t.2.1 with | some _ => 1 | none => 0) + (match t.2.2 with | some _ => 2 | none => 0), t.2.1.getD (⟨#[]⟩, 0), t.2.2.getD 0)
theorem toL_l (k : ByteArray) (x : It) : toL (k, some x, none) = (k, 1, x, 0) := rfl
theorem toL_r (k : ByteArray) (y : UInt8) : toL (k, none, some y) = (k, 2, (⟨#[]⟩, 0), y) := rfl
theorem toL_b (k : ByteArray) (x : It) (y : UInt8) : toL (k, some x, some y) = (k, 3, x, y) := rfl
abbrev mgI (a : List It) (b : List UInt8) : List (Tell It UInt8) := mrg (fun x : It => x.1) dg a b
section
variable {a : List It} {b : List UInt8} {i k : Nat} {acc dl : List To} (h : acc ++ (mgI (a.drop i) (b.drop k)).map toL = dl)
include h
theorem MI.len : acc.length ≤ dl.length := by rw [← h, List.length_append]; omega
theorem MI.left (hi : i < a.length) (hk : b.length ≤ k ∨ ∃ hk : k < b.length, lt a[i].1 (dg b[k]) = true) : (acc ++ [(a[i].1, 1, a[i], 0)]) ++ (mgI (a.drop (i + 1)) (b.drop k)).map toL = dl := by
  rw [drop_at hi] at h
  rw [← h, List.append_assoc, List.singleton_append]
  congr 1
  rcases hk with hk | ⟨hk, hl⟩
  · rw [List.drop_eq_nil_of_le hk]
    unfold mgI
    rw [mrg_r, mrg_r, List.map_cons, List.map_cons, toL_l]
  · rw [drop_at hk]
    unfold mgI
    rw [mrg_lt (f := fun x : It => x.1) (g := dg) hl, List.map_cons, toL_l]
theorem MI.right (hk : k < b.length) (hi : a.length ≤ i ∨ ∃ hi : i < a.length, lt (dg b[k]) a[i].1 = true) : (acc ++ [(dg b[k], 2, (⟨#[]⟩, 0), b[k])]) ++ (mgI (a.drop i) (b.drop (k + 1))).map toL = dl := by
  rw [drop_at hk] at h
  rw [← h, List.append_assoc, List.singleton_append]
  congr 1
  rcases hi with hi | ⟨hi, hl⟩
  · rw [List.drop_eq_nil_of_le hi]
    unfold mgI
    rw [mrg_l, mrg_l, List.map_cons, List.map_cons, toL_r]
  · rw [drop_at hi]
    unfold mgI
    rw [mrg_gt (f := fun x : It => x.1) (g := dg) hl, List.map_cons, toL_r]
theorem MI.both (hi : i < a.length) (hk : k < b.length) (he : a[i].1 = dg b[k]) : (acc ++ [(a[i].1, 3, a[i], b[k])]) ++ (mgI (a.drop (i + 1)) (b.drop (k + 1))).map toL = dl := by
  rw [drop_at hi, drop_at hk] at h
  rw [← h, List.append_assoc, List.singleton_append]
  congr 1
  unfold mgI
  rw [mrg_eq (f := fun x : It => x.1) (g := dg) he, List.map_cons, toL_b]
theorem MI.done (hi : a.length ≤ i) (hk : b.length ≤ k) : acc = dl := by
  rw [List.drop_eq_nil_of_le hi, List.drop_eq_nil_of_le hk] at h
  rw [← h]
  unfold mgI
  rw [mrg_l]
  exact (List.append_nil acc).symm
end
end Go.Proofs.Ytbahlfpcbplofaa.S
