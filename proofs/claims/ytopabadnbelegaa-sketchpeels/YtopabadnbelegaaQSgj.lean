/- Segments: marks, lists that are lent, whether they are kept; Same. Written by mksgj.py. -/
import Derived.Test.YtopabadnbelegaaQSgi
namespace Go.Proofs.Ytopabadnbelegaa.S
open Go.RowKit Go.Lib
/- equality of cells -/
noncomputable def enF (i : Nat) : Field := (Try.prog.fieldsOf 36).getD i default
theorem enFs : (Try.prog.fieldsOf 36).toList = [enF 0, enF 1] := by kernel_rfl
theorem enm0 : (enF 0).name ≠ "_" := of_decide_eq_true (by kernel_rfl)
theorem enm1 : (enF 1).name ≠ "_" := of_decide_eq_true (by kernel_rfl)
section
variable (a b c d : ByteArray) (u : World)
theorem ept0 : (part (enF 0).type #[.string a, .string b] (enF 0).offset).run Try.prog u = .ok (.string a) u := by kernel_rfl
theorem ept1 : (part (enF 1).type #[.string a, .string b] (enF 1).offset).run Try.prog u = .ok (.string b) u := by kernel_rfl
theorem eeq0 : (Op.equalIn 9999 (enF 0).type (.string a) (.string b)).run Try.prog u = .ok (a.toList == b.toList) u := run_equalIn_string u 9998 (enF 0).type a b (by kernel_rfl)
theorem eeq1 : (Op.equalIn 9999 (enF 1).type (.string a) (.string b)).run Try.prog u = .ok (a.toList == b.toList) u := run_equalIn_string u 9998 (enF 1).type a b (by kernel_rfl)
theorem eeqFs : (Op.eqFields 9999 #[.string a, .string b] #[.string c, .string d] (Try.prog.fieldsOf 36).toList).run Try.prog u = .ok ((a.toList == c.toList) && (b.toList == d.toList)) u := by
  rw [enFs]
  have h1 : (Op.eqFields 9999 #[.string a, .string b] #[.string c, .string d] [enF 1]).run Try.prog u = .ok (b.toList == d.toList) u := by
    simp only [Op.eqFields, if_pos enm1, Sem.run_bind, ept1, eeq1, Result.andThen_ok]
    cases (b.toList == d.toList) <;> simp
  rw [Op.eqFields, if_pos enm0]
  simp only [Sem.run_bind, ept0, eeq0, Result.andThen_ok]
  cases (a.toList == c.toList)
  · simp
  · simp only [Bool.not_true, Bool.false_eq_true, if_false, Bool.true_and]
    exact h1
theorem eqlEn : (binOp .eql 36 (.agg #[.string a, .string b]) (.agg #[.string c, .string d])).run Try.prog u = .ok (.bool ((a.toList == c.toList) && (b.toList == d.toList))) u := by
  rw [run_eql_struct, run_equalIn_agg u 9999 36 _ _ (by kernel_rfl) (by kernel_rfl), eeqFs]
  rfl
theorem neqEn : (binOp .neq 36 (.agg #[.string a, .string b]) (.agg #[.string c, .string d])).run Try.prog u = .ok (.bool (!((a.toList == c.toList) && (b.toList == d.toList)))) u := by
  rw [run_neq_struct, run_equalIn_agg u 9999 36 _ _ (by kernel_rfl) (by kernel_rfl), eeqFs]
  rfl
end
theorem ba_beq (a b : ByteArray) : (a.toList == b.toList) = decide (a = b) := by
  by_cases h : a = b
  · rw [h, decide_eq_true rfl]; simp
  · rw [decide_eq_false h, beq_eq_false_iff_ne]; exact fun e => h (ba_list e)
theorem eqlE (x y : En) (u : World) : (binOp .eql 36 (.agg #[.string x.1, .string x.2]) (.agg #[.string y.1, .string y.2])).run Try.prog u = .ok (.bool (decide (x = y))) u := by
  rw [eqlEn, ba_beq, ba_beq, ← Bool.decide_and]
  congr 2
  rw [decide_eq_decide]
  exact Prod.ext_iff.symm
theorem neqE (x y : En) (u : World) : (binOp .neq 36 (.agg #[.string x.1, .string x.2]) (.agg #[.string y.1, .string y.2])).run Try.prog u = .ok (.bool (!decide (x = y))) u := by
  rw [neqEn, ba_beq, ba_beq, ← Bool.decide_and]
  congr 3
  rw [decide_eq_decide]
  exact Prod.ext_iff.symm
/- Same -/
def mkW : ByteArray := ⟨#[109, 97, 114, 107]⟩
def markE (k : Nat) : En := (mkW, Utf8.encode (97 + (k : Int)))
def marks : List En := (List.range 70).map markE
theorem marks_len : marks.length = 70 := by simp [marks]
theorem marks_take {k : Nat} (h : k < 70) : marks.take (k + 1) = marks.take k ++ [markE k] := by
  rw [List.take_succ_eq_append_getElem (by rw [marks_len]; exact h)]
  congr 2
  simp [marks]
theorem markE_1 (k : Nat) : (markE k).1 = mkW := by simp only [markE]
theorem markE_2 (k : Nat) : (markE k).2 = Utf8.encode (97 + (k : Int)) := by simp only [markE]
theorem RE.one (W : World) (e : En) (t : TypeId) : RE.At (W.alloc (.cells #[.string e.1, .string e.2] t)) [e] (some ⟨W.heap.size, 0, none⟩) 1 :=
  ⟨fun _ => ⟨_, 0, rfl, fun j v hv => by
    have h1 : (W.alloc (.cells #[.string e.1, .string e.2] t)).heap[W.heap.size]? = some (.cells #[.string e.1, .string e.2] t (0, 0)) := heap_alloc_new _ _
    simp only [World.cell?, h1, Nat.zero_add]
    simpa [Rec.flat, RE, ecs] using hv⟩, by simp, (fun e => by cases e), by simp⟩
theorem wpList_putE {ops : Array Oper} {rest : List Oper} {o : Oper} {a : Act} {w : World} {Q : Exit → Act → World → Prop} (hgd : o.guard = none) (s x : Operand) (ho : o.op = .call { callee := .builtin .append, args := #[s, x], argTypes := #[40, 40] }) (d : Option Tmp) (hd : o.dst = d)
    (B : Nat) (l m : List En) (n1 n2 : Nat) (e1 : n1 = l.length) (e2 : n2 = m.length) (ao bo : Option Addr) (c c2 : Nat) (hs : a.eval s = .slice ao n1 c) (hx : a.eval x = .slice bo n2 c2) (hown : RE.Own w B l ao c) (hm : RE.At w m bo c2) (hl : (l.length + m.length) * 32 ≤ 140737488355328) (hB : B ≤ w.heap.size)
    (h : ∀ ao' n' c' w', Hid (RE.Put w w' B l m ao c ao' n' c') → wpList Try.prog ops Q rest (a.put d (.slice ao' n' c')) w') : wpList Try.prog ops Q (o :: rest) a w :=
  RE.wpList_put hgd s x ho d hd B l m n1 n2 e1 e2 ao bo c c2 hs hx hown hm hl hB h
theorem wp_putE {o : Oper} {a : Act} {w : World} {K : Act → World → Prop} {Q : Exit → Act → World → Prop} (s x : Operand) (ho : o.op = .call { callee := .builtin .append, args := #[s, x], argTypes := #[40, 40] }) (d : Option Tmp) (hd : o.dst = d)
    (B : Nat) (l m : List En) (n1 n2 : Nat) (e1 : n1 = l.length) (e2 : n2 = m.length) (ao bo : Option Addr) (c c2 : Nat) (hs : a.eval s = .slice ao n1 c) (hx : a.eval x = .slice bo n2 c2) (hown : RE.Own w B l ao c) (hm : RE.At w m bo c2) (hl : (l.length + m.length) * 32 ≤ 140737488355328) (hB : B ≤ w.heap.size)
    (h : ∀ ao' n' c' w', Hid (RE.Put w w' B l m ao c ao' n' c') → K (a.put d (.slice ao' n' c')) w') : o.wp Try.prog a w K Q :=
  RE.wp_put s x ho d hd B l m n1 n2 e1 e2 ao bo c c2 hs hx hown hm hl hB h
theorem cutE (g n c i : Nat) (hi : i ≤ c) (h0 : 0 < c) (W : World) : (Instr.slice 40 (.slice (some ⟨g, 0, none⟩) n c) none (some (.int .i64 (i : Int))) none).run Try.prog W = .ok (.slice (some ⟨g, 0, none⟩) i c) W := by
  have he : Try.prog.elem 40 = 36 := by kernel_rfl
  rw [run_slice_h W 40 _ _ _ (by rw [he]; kernel_rfl) .i64 i (by omega) (by omega), he, sizeN (n := 2) (by kernel_rfl)]
  simp only [Result.andThen_ok, sliced, Int.toNat_natCast, Nat.sub_zero]
  rw [if_neg (by omega), Option.map_some, Addr.add_mid]
/-- a list that was lent: the marks lie behind it -/
structure Le (w : World) (B : Nat) (l : List En) (g n cc : Nat) : Prop where
  own : RE.Own w B (l ++ marks) (some ⟨g, 0, none⟩) cc
  hn : n = l.length
  many : l.length ≤ 4398046511000
theorem Le.cap {w : World} {B : Nat} {l : List En} {g n cc : Nat} (h : Le w B l g n cc) : n + 70 ≤ cc := by
  have := (own_lies h.own).2.1
  rw [List.length_append, marks_len] at this
  rw [h.hn]; exact this
theorem Le.el {w : World} {B : Nat} {l : List En} {g n cc : Nat} (h : Le w B l g n cc) : El w l (some ⟨g, 0, none⟩) n cc := by
  have h1 := (own_lies h.own).1
  rw [RE.flat_app] at h1
  exact ⟨⟨h1.pre, by have := h.cap; have := h.hn; omega, (fun e => by cases e), h.many⟩, h.hn⟩
theorem Le.below {w w' : World} {B : Nat} {l : List En} {g n cc : Nat} (h : Le w B l g n cc) (hb : Below w.heap.size w w') : Le w' B l g n cc := ⟨h.own.below hb, h.hn, h.many⟩
theorem Le.down {w : World} {B B' : Nat} {l : List En} {g n cc : Nat} (h : Le w B l g n cc) (hb : B' ≤ B) : Le w B' l g n cc := ⟨own_down h.own hb, h.hn, h.many⟩
theorem Le.mark {w : World} {B : Nat} {l : List En} {g n cc : Nat} (h : Le w B l g n cc) (k : Nat) (hk : k < 70) : w.cell? ⟨g, (n + k) * 2, none⟩ = some (.string (markE k).1) ∧ w.cell? ⟨g, (n + k) * 2 + 1, none⟩ = some (.string (markE k).2) := by
  have hlen : (l ++ marks).length = n + 70 := by rw [List.length_append, marks_len, h.hn]
  have hel : RE.At w (l ++ marks) (some ⟨g, 0, none⟩) cc → True := fun _ => trivial
  obtain ⟨g', o, e, h2⟩ := (own_lies h.own).1 (by rw [RE.flat_len, hlen]; exact Nat.mul_pos (by omega) RE.hn)
  cases e
  have hg : (l ++ marks)[n + k]'(by omega) = markE k := by
    have := h.hn
    rw [List.getElem_append_right (by omega)]
    simp only [marks, List.getElem_map, List.getElem_range]
    congr 1; omega
  have f0 := RE.flat_get (l ++ marks) (n + k) (by omega) 0 (by decide)
  have f1 := RE.flat_get (l ++ marks) (n + k) (by omega) 1 (by decide)
  rw [hg] at f0 f1
  have r0 := h2 _ _ (f0.trans rfl)
  have r1 := h2 _ _ (f1.trans rfl)
  rw [Nat.zero_add] at r0 r1
  exact ⟨r0, r1⟩
end Go.Proofs.Ytopabadnbelegaa.S
