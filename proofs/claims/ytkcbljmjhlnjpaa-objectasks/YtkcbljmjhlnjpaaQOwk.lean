/- Objects: the law's turned (written by mkowk.py). -/
import Derived.Test.YtkcbljmjhlnjpaaQOwd
import Derived.Test.YtkcbljmjhlnjpaaQOwj
namespace Go.Proofs.Ytkcbljmjhlnjpaa
open Go.RowKit Go.Lib
def turnD (d : Nat × Nat) : Nat × Nat := (d.1, (d.2 + 1) % 18446744073709551616)
def turnS (s : Sb) : Sb := if s.gone then s else ⟨s.a, s.c, s.gone, ⟨#[43]⟩ ++ s.val⟩
def turnO (o : Ot) : Ot := ⟨o.key, ⟨o.st.seen.map turnD, o.st.sibs.map turnS⟩⟩
theorem flatS_setc : ∀ (l : List Sb) (k : Nat) (v : ByteArray) (hk : k < l.length), (flatS l).set (k * 4 + 3) (.string v) = flatS (l.set k ⟨l[k].a, l[k].c, l[k].gone, v⟩)
  | [], k, v, hk => by simp at hk
  | c :: cs, 0, v, _ => by simp [flatS, Sb.cs]
  | c :: cs, k + 1, v, hk => by
    have ih := flatS_setc cs k v (by simpa using hk)
    have e : flatS (c :: cs) = .int .u32 (c.a : Int) :: .int .u64 (c.c : Int) :: .bool c.gone :: .string c.val :: flatS cs := rfl
    rw [e, show (k + 1) * 4 + 3 = k * 4 + 3 + 1 + 1 + 1 + 1 by omega, List.set_cons_succ, List.set_cons_succ, List.set_cons_succ, List.set_cons_succ, ih]
    rfl
theorem wp_store_i {P : Program} {o : Oper} {a : Act} {w : World} {K : Act → World → Prop} {Q : Exit → Act → World → Prop} (x y : Operand) (ty : TypeId) (ho : o.op = .store ty x y) (hd : o.dst = none) (b k : Nat) (kd : IntKind) (z : Int) (hx : a.eval x = .pointer (some ⟨b, k, none⟩)) (hy : a.eval y = .int kd z)
    (ht : w.there b k 1) (hi : (P.info? ty).map (·.size) = some 1) (h : K a (w.setCell ⟨b, k, none⟩ (.int kd z))) : o.wp P a w K Q := by
  have h1 : (storeVar ty ⟨b, k, none⟩ (.int kd z)).run P w = .ok () (w.setCells b k [.int kd z]) := run_storeVar_mid (P := P) w b k ty #[.int kd z] ht hi (by simp [Value.oneCell'])
  unfold Oper.wp execOp
  simp only [ho, hx, hy, Instr.storeAt, Instr.sureAddr, Sem.run_bind, Sem.run_pure, Result.andThen_ok, h1]
  exact (show K (a.put o.dst undef) _ by rw [hd]; exact h)
theorem wp_store_s {P : Program} {o : Oper} {a : Act} {w : World} {K : Act → World → Prop} {Q : Exit → Act → World → Prop} (x y : Operand) (ty : TypeId) (ho : o.op = .store ty x y) (hd : o.dst = none) (b k : Nat) (z : ByteArray) (hx : a.eval x = .pointer (some ⟨b, k, none⟩)) (hy : a.eval y = .string z)
    (ht : w.there b k 1) (hi : (P.info? ty).map (·.size) = some 1) (h : K a (w.setCell ⟨b, k, none⟩ (.string z))) : o.wp P a w K Q := by
  have h1 : (storeVar ty ⟨b, k, none⟩ (.string z)).run P w = .ok () (w.setCells b k [.string z]) := run_storeVar_mid (P := P) w b k ty #[.string z] ht hi (by simp [Value.oneCell'])
  unfold Oper.wp execOp
  simp only [ho, hx, hy, Instr.storeAt, Instr.sureAddr, Sem.run_bind, Sem.run_pure, Result.andThen_ok, h1]
  exact (show K (a.put o.dst undef) _ by rw [hd]; exact h)
/-- an object whose lists are being turned at their places -/
structure Tn (u w : World) (N B : Nat) (k : ByteArray) (gd xsc n gs xbc m : Nat) (ld : List (Nat × Nat)) (lb : List Sb) : Prop where
  os : w.os = u.os
  tape : w.tape = u.tape
  output : w.output = u.output
  size : u.heap.size ≤ w.heap.size
  block : ∀ j, j < u.heap.size → j ≠ gd → j ≠ gs → w.heap[j]? = u.heap[j]?
  od : OwnD w B ld (some ⟨gd, 0, none⟩) xsc
  ob : OwnS w B lb (some ⟨gs, 0, none⟩) xbc
  box : w.heap[N]? = some (obRow k ⟨some ⟨gd, 0, none⟩, xsc, some ⟨gs, 0, none⟩, xbc⟩ n m)
  nd : N ≠ gd
  ns : N ≠ gs
section
variable {u w w' : World} {N B : Nat} {k : ByteArray} {gd xsc n gs xbc m : Nat} {ld : List (Nat × Nat)} {lb : List Sb}
theorem Tn.belw (h : Tn u w N B k gd xsc n gs xbc m ld lb) (hb : Below w.heap.size w w') : Tn u w' N B k gd xsc n gs xbc m ld lb :=
  ⟨hb.os.trans h.os, hb.tape.trans h.tape, hb.output.trans h.output, Nat.le_trans h.size hb.size, fun j hj h1 h2 => (hb.block j (Nat.lt_of_lt_of_le hj h.size)).trans (h.block j hj h1 h2), h.od.below hb, h.ob.below hb, box_below h.box hb, h.nd, h.ns⟩
theorem Tn.grownD {ld' : List (Nat × Nat)} (h : Tn u w N B k gd xsc n gs xbc m ld lb) (hg : w.grownBy w' (some gd)) (ho : OwnD w' B ld' (some ⟨gd, 0, none⟩) xsc) : Tn u w' N B k gd xsc n gs xbc m ld' lb :=
  ⟨hg.os.trans h.os, hg.tape.trans h.tape, hg.output.trans h.output, Nat.le_trans h.size hg.size, fun j hj h1 h2 => (hg.block j (Nat.lt_of_lt_of_le hj h.size) (fun e => h1 (Option.some.inj e))).trans (h.block j hj h1 h2), ho, own_other h.ob h.od (by decide) hg, (hg.block N (Array.getElem?_eq_some_iff.1 h.box).1 (fun e => h.nd (Option.some.inj e))).trans h.box, h.nd, h.ns⟩
theorem Tn.grownS {lb' : List Sb} (h : Tn u w N B k gd xsc n gs xbc m ld lb) (hg : w.grownBy w' (some gs)) (ho : OwnS w' B lb' (some ⟨gs, 0, none⟩) xbc) : Tn u w' N B k gd xsc n gs xbc m ld lb' :=
  ⟨hg.os.trans h.os, hg.tape.trans h.tape, hg.output.trans h.output, Nat.le_trans h.size hg.size, fun j hj h1 h2 => (hg.block j (Nat.lt_of_lt_of_le hj h.size) (fun e => h2 (Option.some.inj e))).trans (h.block j hj h1 h2), own_other h.od h.ob (by decide) hg, ho, (hg.block N (Array.getElem?_eq_some_iff.1 h.box).1 (fun e => h.ns (Option.some.inj e))).trans h.box, h.nd, h.ns⟩
theorem Tn.setD0 (h : Tn u w N B k gd xsc n gs xbc m ld lb) (i p : Nat) (hi : i < ld.length) : Tn u (w.setCell ⟨gd, i * 2 + 1, none⟩ (.int .u64 (p : Int))) N B k gd xsc n gs xbc m (ld.set i (ld[i].1, p)) lb := by
  have s := World.ownsRow.stored h.od (i * 2 + 1) (.int .u64 (p : Int))
  refine h.grownD s.2 ?_
  have s1 := s.1
  rw [flatD_setc ld i p hi] at s1
  unfold OwnD
  rw [List.length_set]
  exact s1
theorem Tn.setS0 (h : Tn u w N B k gd xsc n gs xbc m ld lb) (i : Nat) (v : ByteArray) (hi : i < lb.length) : Tn u (w.setCell ⟨gs, i * 4 + 3, none⟩ (.string v)) N B k gd xsc n gs xbc m ld (lb.set i ⟨lb[i].a, lb[i].c, lb[i].gone, v⟩) := by
  have s := World.ownsRow.stored h.ob (i * 4 + 3) (.string v)
  refine h.grownS s.2 ?_
  have s1 := s.1
  rw [flatS_setc lb i v hi] at s1
  unfold OwnS
  rw [List.length_set]
  exact s1
theorem Tn.thereD (h : Tn u w N B k gd xsc n gs xbc m ld lb) {i : Nat} (hi : i < ld.length) : w.there gd (i * 2 + 1) 1 := fun j hj => by
  obtain rfl : j = 0 := by omega
  exact h.od.there hi 1 (by decide)
theorem Tn.thereS (h : Tn u w N B k gd xsc n gs xbc m ld lb) {i : Nat} (hi : i < lb.length) : w.there gs (i * 4 + 3) 1 := fun j hj => by
  obtain rfl : j = 0 := by omega
  exact h.ob.there hi 3 (by decide)
theorem Tn.cellD (h : Tn u w N B k gd xsc n gs xbc m ld lb) {i : Nat} (hi : i < ld.length) : w.cell? ⟨gd, i * 2 + 1, none⟩ = some (.int .u64 (ld[i].2 : Int)) := by
  rw [World.ownsRow.cellAt h.od (i * 2 + 1) (by omega)]
  exact (flatD_get ld i hi).2
theorem Tn.cellS (h : Tn u w N B k gd xsc n gs xbc m ld lb) {i : Nat} (hi : i < lb.length) : w.cell? ⟨gs, i * 4 + 2, none⟩ = some (.bool lb[i].gone) ∧ w.cell? ⟨gs, i * 4 + 3, none⟩ = some (.string lb[i].val) := by
  rw [World.ownsRow.cellAt h.ob (i * 4 + 2) (by omega), World.ownsRow.cellAt h.ob (i * 4 + 3) (by omega)]
  exact ⟨(flatS_get lb i hi).2.2.1, (flatS_get lb i hi).2.2.2⟩
end
/-- up to here they are turned -/
def upTo {α : Type} (f : α → α) (l : List α) (e : α) (i : Nat) (r : List α) : Prop := ∀ j, r[j]? = if j < i then (l.map f ++ [e])[j]? else (l ++ [e])[j]?
theorem upTo.zero {α : Type} (f : α → α) (l : List α) (e : α) : upTo f l e 0 (l ++ [e]) := fun j => by rw [if_neg (Nat.not_lt_zero _)]
theorem upTo.at {α : Type} {f : α → α} {l : List α} {e : α} {i : Nat} {r : List α} (h : upTo f l e i r) (hi : i < l.length) : r[i]? = some l[i] := by
  rw [h i, if_neg (Nat.lt_irrefl _), List.getElem?_append_left hi, List.getElem?_eq_getElem hi]
theorem upTo.next {α : Type} {f : α → α} {l : List α} {e : α} {i : Nat} {r : List α} (h : upTo f l e i r) (hi : i < l.length) (hr : i < r.length) : upTo f l e (i + 1) (r.set i (f l[i])) := fun j => by
  rw [List.getElem?_set]
  by_cases hj : i = j
  · subst hj
    rw [if_pos rfl, if_pos (Nat.lt_succ_self _), if_pos hr, List.getElem?_append_left (by simpa using hi), List.getElem?_map, List.getElem?_eq_getElem hi]
    rfl
  · rw [if_neg hj, h j]
    by_cases h1 : j < i
    · rw [if_pos h1, if_pos (by omega)]
    · rw [if_neg h1, if_neg (by omega)]
theorem upTo.stay {α : Type} {f : α → α} {l : List α} {e : α} {i : Nat} {r : List α} (h : upTo f l e i r) (hi : i < l.length) (hf : f l[i] = l[i]) : upTo f l e (i + 1) r := fun j => by
  by_cases hj : i = j
  · subst hj
    rw [if_pos (Nat.lt_succ_self _), h.at hi, List.getElem?_append_left (by simpa using hi), List.getElem?_map, List.getElem?_eq_getElem hi]
    show _ = some (f l[i])
    rw [hf]
  · rw [h j]
    by_cases h1 : j < i
    · rw [if_pos h1, if_pos (by omega)]
    · rw [if_neg h1, if_neg (by omega)]
theorem upTo.all {α : Type} {f : α → α} {l : List α} {e : α} {r : List α} (h : upTo f l e l.length r) : r = l.map f ++ [e] := List.ext_getElem? fun j => by
  rw [h j]
  by_cases h1 : j < l.length
  · rw [if_pos h1]
  · rw [if_neg h1, List.getElem?_append_right (by omega), List.getElem?_append_right (by simpa using h1), List.length_map]
set_option maxRecDepth 100000 in
set_option maxHeartbeats 8000000 in
theorem lTurned {u : World} {B : Nat} {o : Ot} {gd xsc gs xbc n m : Nat} (ht : TwO u B o ⟨some ⟨gd, 0, none⟩, xsc, some ⟨gs, 0, none⟩, xbc⟩) (hn : n = o.st.seen.length) (hm : m = o.st.sibs.length) (hn6 : n ≤ 8796093021952) (hm6 : m ≤ 3518437208780) (hv : ∀ s ∈ o.st.sibs, s.val.size ≤ 140737488355328) :
    Calls Try.prog 16 #[obV o.key ⟨some ⟨gd, 0, none⟩, xsc, some ⟨gs, 0, none⟩, xbc⟩ n m] u fun e u' => e = .returned (.tuple #[]) ∧ TwO u' B (turnO o) ⟨some ⟨gd, 0, none⟩, xsc, some ⟨gs, 0, none⟩, xbc⟩ ∧ (u'.os = u.os ∧ u'.tape = u.tape ∧ u'.output = u.output ∧ u.heap.size ≤ u'.heap.size ∧ ∀ j, j < u.heap.size → j ≠ gd → j ≠ gs → u'.heap[j]? = u.heap[j]?) := by
  have hmix : Try.prog.follows .mixedOrders = true := by kernel_rfl
  obtain ⟨N, hN⟩ : ∃ N, N = u.heap.size := ⟨_, rfl⟩
  have HN := hide hN
  have hni : (n : Int) ≤ 8796093021952 := by omega
  have hmi : (m : Int) ≤ 3518437208780 := by omega
  have H0 : Hid (∀ G : World, Below N u G → G.heap[N]? = some (obRow o.key ⟨some ⟨gd, 0, none⟩, xsc, some ⟨gs, 0, none⟩, xbc⟩ n m) → Tn u G N B o.key gd xsc n gs xbc m (o.st.seen ++ [mkD]) (o.st.sibs ++ [mkS])) := fun G hG hx => by
    have hb : Below u.heap.size u G := by rw [← hN]; exact hG
    have h1 := ht.below hb
    have h2 := (World.ownsRow.lt ht.sd gd rfl).2
    have h3 := (World.ownsRow.lt ht.sb gs rfl).2
    exact ⟨hb.os, hb.tape, hb.output, hb.size, fun j hj _ _ => hb.block j hj, h1.sd, h1.sb, hx, by omega, by omega⟩
  have HVS := hide hv
  have HND := hide hn
  have HMD := hide hm
  have HKY : Hid ((turnO o).st = ⟨o.st.seen.map turnD, o.st.sibs.map turnS⟩) := rfl
  clear hN ht hv hn hm hn6 hm6
  go_enter Try.func16, Try.ntmps16
  go_wp2_with (first
    | ((with_reducible refine wpList_box_ob (by rfl) (.tmp 0) (by rfl) (some 1) (by rfl) N (unhide HN) o.key ⟨some ⟨gd, 0, none⟩, xsc, some ⟨gs, 0, none⟩, xbc⟩ n m (by with_unfolding_all rfl) ?_); intro X1 HX1 HB1 HS1; simp only [Act.put, List.setIfInBounds_toArray, List.set_cons_zero, List.set_cons_succ]; have HI1 := hide (unhide H0 _ (unhide HB1) (unhide HX1)); clear HX1 HB1 HS1)
    | fail)
  clear H0
  go_loopw [2] (fun s2 wr => ∃ (i : Nat) (ld : List (Nat × Nat)), i ≤ n ∧ s2 = .int .i64 (i : Int) ∧ Hid (ld.length = n + 1) ∧ Hid (upTo turnD o.st.seen mkD i ld) ∧ Hid (Tn u wr N B o.key gd xsc n gs xbc m ld (o.st.sibs ++ [mkS]))) (fun s2 _ => n - (intOf s2).toNat)
  case atStart => exact ⟨0, _, Nat.zero_le _, rfl, hide (by rw [unhide HND]; simp), upTo.zero _ _ _, unhide HI1⟩
  case round =>
    clear HI1
    obtain ⟨i, ld, hin, rfl, HL, HUT, HI⟩ := hrel
    obtain ⟨c0, c1, c2⟩ := ob_cells (unhide HI).box
    have hii0 : (i : Int) ≤ 8796093021952 := by omega
    by_cases hi : i < n
    · have hii : (i : Int) < (n : Int) := by omega
      have hil : i < o.st.seen.length := by rw [← unhide HND]; exact hi
      have hir : i < ld.length := by rw [unhide HL]; omega
      have hat : ld[i] = o.st.seen[i] := by
        have := (unhide HUT).at hil
        rw [List.getElem?_eq_getElem hir] at this
        exact Option.some.inj this
      obtain ⟨da, dc, hdd⟩ : ∃ da dc, o.st.seen[i] = (da, dc) := ⟨_, _, rfl⟩
      obtain ⟨dc1, hdc1⟩ : ∃ dc1, dc1 = (dc + 1) % 18446744073709551616 := ⟨_, rfl⟩
      have hw : IntKind.u64.wrap ((dc : Int) + 1) = (dc1 : Int) := by rw [IntKind.wrap_u64]; omega
      have HNX : Hid (upTo turnD o.st.seen mkD (i + 1) (ld.set i (da, dc1))) := by
        have := (unhide HUT).next hil hir
        rw [hdd] at this
        unfold turnD at this
        simp only at this
        rw [← hdc1] at this
        exact this
      have HCL : Hid (∀ V : World, Below wr.heap.size wr V → V.cell? ⟨gd, i * 2 + 1, none⟩ = some (.int .u64 (dc : Int))) := fun V hV => by
        have := ((unhide HI).belw hV).cellD hir
        rw [hat, hdd] at this
        exact this
      have HSD : Hid (∀ V : World, Tn u V N B o.key gd xsc n gs xbc m ld (o.st.sibs ++ [mkS]) → Tn u (V.setCell ⟨gd, i * 2 + 1, none⟩ (.int .u64 (dc1 : Int))) N B o.key gd xsc n gs xbc m (ld.set i (da, dc1)) (o.st.sibs ++ [mkS])) := fun V hV => by
        have := hV.setD0 i dc1 hir
        rw [hat, hdd] at this
        exact this
      have hix : ∀ G : World, (Instr.indexAt 28 (.slice (some ⟨gd, 0, none⟩) n xsc) (.int .i64 (i : Int))).run Try.prog G = .ok (.pointer (some ⟨gd, i * 2, none⟩)) G := fun G => by have := ixD gd 0 n xsc i hi G; rwa [Nat.zero_add] at this
      clear hat hdd hdc1
      go_wp2_with fail
      clear c0 c1 c2
      refine wp_region_last (fun V => Below wr.heap.size wr V) 14 hmix (belowDrew (Below.refl _ _)) fun hS => ?_
      have HIZ := hide ((unhide HI).belw (belowDrew (Below.refl _ _)))
      generalize wr.drew = Z0 at hS HIZ ⊢
      refine wpAnyL_take 0 12 (.pointer (some ⟨N, 1, none⟩)) [] rfl rfl (by kernel_rfl) (by kernel_rfl) (by kernel_rfl) (by kernel_rfl) (by kernel_rfl) (fun _ _ _ h => h) (by rfl) (fun _ _ => by go_simp) hS ?_
      simp only [Act.put, List.setIfInBounds_toArray, List.set_cons_zero, List.set_cons_succ]
      refine wpAnyL_take 1 13 (.pointer (some ⟨N, 1, none⟩)) [] rfl rfl (by kernel_rfl) (by kernel_rfl) (by kernel_rfl) (by kernel_rfl) (by kernel_rfl) (fun _ _ _ h => h) (by rfl) (fun _ _ => by go_simp) hS ?_
      simp only [Act.put, List.setIfInBounds_toArray, List.set_cons_zero, List.set_cons_succ]
      refine wpAnyL_take 2 14 (.slice (some ⟨gd, 0, none⟩) n xsc) [] rfl rfl (by kernel_rfl) (by kernel_rfl) (by kernel_rfl) (by kernel_rfl) (by kernel_rfl) (fun _ _ _ h => h) (by rfl) (fun V hV => by obtain ⟨c0, c1, c2⟩ := ob_cells (box_below (unhide HI).box hV); go_simp) hS ?_
      simp only [Act.put, List.setIfInBounds_toArray, List.set_cons_zero, List.set_cons_succ]
      refine wpAnyL_take 3 15 (.int .i64 (i : Int)) [] rfl rfl (by kernel_rfl) (by kernel_rfl) (by kernel_rfl) (by kernel_rfl) (by kernel_rfl) (fun _ _ _ h => h) (by rfl) (fun _ _ => by go_simp) hS ?_
      simp only [Act.put, List.setIfInBounds_toArray, List.set_cons_zero, List.set_cons_succ]
      refine wpAnyL_take 4 16 (.pointer (some ⟨N, 1, none⟩)) [] rfl rfl (by kernel_rfl) (by kernel_rfl) (by kernel_rfl) (by kernel_rfl) (by kernel_rfl) (fun _ _ _ h => h) (by rfl) (fun _ _ => by go_simp) hS ?_
      simp only [Act.put, List.setIfInBounds_toArray, List.set_cons_zero, List.set_cons_succ]
      refine wpAnyL_take 5 17 (.pointer (some ⟨N, 1, none⟩)) [] rfl rfl (by kernel_rfl) (by kernel_rfl) (by kernel_rfl) (by kernel_rfl) (by kernel_rfl) (fun _ _ _ h => h) (by rfl) (fun _ _ => by go_simp) hS ?_
      simp only [Act.put, List.setIfInBounds_toArray, List.set_cons_zero, List.set_cons_succ]
      refine wpAnyL_take 6 18 (.slice (some ⟨gd, 0, none⟩) n xsc) [] rfl rfl (by kernel_rfl) (by kernel_rfl) (by kernel_rfl) (by kernel_rfl) (by kernel_rfl) (fun _ _ _ h => h) (by rfl) (fun V hV => by obtain ⟨c0, c1, c2⟩ := ob_cells (box_below (unhide HI).box hV); go_simp) hS ?_
      simp only [Act.put, List.setIfInBounds_toArray, List.set_cons_zero, List.set_cons_succ]
      refine wpAnyL_take 7 19 (.int .i64 (i : Int)) [] rfl rfl (by kernel_rfl) (by kernel_rfl) (by kernel_rfl) (by kernel_rfl) (by kernel_rfl) (fun _ _ _ h => h) (by rfl) (fun _ _ => by go_simp) hS ?_
      simp only [Act.put, List.setIfInBounds_toArray, List.set_cons_zero, List.set_cons_succ]
      refine wpAnyL_take 8 20 (.pointer (some ⟨gd, i * 2, none⟩)) [] rfl rfl (by kernel_rfl) (by kernel_rfl) (by kernel_rfl) (by kernel_rfl) (by kernel_rfl) (fun _ _ _ h => h) (by rfl) (fun V _ => by have h := hix V; go_simp) hS ?_
      simp only [Act.put, List.setIfInBounds_toArray, List.set_cons_zero, List.set_cons_succ]
      refine wpAnyL_take 9 21 (.pointer (some ⟨gd, i * 2 + 1, none⟩)) [] rfl rfl (by kernel_rfl) (by kernel_rfl) (by kernel_rfl) (by kernel_rfl) (by kernel_rfl) (fun _ _ _ h => h) (by rfl) (fun _ _ => by go_simp) hS ?_
      simp only [Act.put, List.setIfInBounds_toArray, List.set_cons_zero, List.set_cons_succ]
      refine wpAnyL_take 10 22 (.int .u64 (dc : Int)) [] rfl rfl (by kernel_rfl) (by kernel_rfl) (by kernel_rfl) (by kernel_rfl) (by kernel_rfl) (fun _ _ _ h => h) (by rfl) (fun V hV => by have h := unhide HCL V hV; go_simp) hS ?_
      simp only [Act.put, List.setIfInBounds_toArray, List.set_cons_zero, List.set_cons_succ]
      refine wpAnyL_take 11 23 (.int .u64 (dc1 : Int)) [] rfl rfl (by kernel_rfl) (by kernel_rfl) (by kernel_rfl) (by kernel_rfl) (by kernel_rfl) (fun _ _ _ h => h) (by rfl) (fun _ _ => by go_simp) hS ?_
      simp only [Act.put, List.setIfInBounds_toArray, List.set_cons_zero, List.set_cons_succ]
      refine wpAnyL_take 12 24 (.pointer (some ⟨gd, i * 2, none⟩)) [13] rfl rfl (by kernel_rfl) (by kernel_rfl) (by kernel_rfl) (by kernel_rfl) (by kernel_rfl) (fun _ _ _ h => h) (by rfl) (fun V _ => by have h := hix V; go_simp) hS ?_
      simp only [Act.put, List.setIfInBounds_toArray, List.set_cons_zero, List.set_cons_succ]
      refine wpAnyL_take 13 25 (.pointer (some ⟨gd, i * 2 + 1, none⟩)) [] rfl rfl (by kernel_rfl) (by kernel_rfl) (by kernel_rfl) (by kernel_rfl) (by kernel_rfl) (fun _ _ _ h => h) (by rfl) (fun _ _ => by go_simp) hS ?_
      simp only [Act.put, List.setIfInBounds_toArray, List.set_cons_zero, List.set_cons_succ]
      refine wpAnyL_one (i := 14) (by kernel_rfl) rfl (by rfl) fun K hK => ?_
      refine wp_store_i (.tmp 25) (.tmp 23) 51 (by rfl) (by rfl) gd (i * 2 + 1) .u64 (dc1 : Int) (by with_unfolding_all rfl) (by with_unfolding_all rfl) ((unhide HIZ).thereD (by rw [unhide HL]; omega)) (by kernel_rfl) ?_
      have HI2 := hide (unhide HSD _ (unhide HIZ))
      generalize Z0.setCell ⟨gd, i * 2 + 1, none⟩ (.int .u64 (dc1 : Int)) = Z1 at HI2 ⊢
      refine hK _ _ (fun h => absurd rfl h) ?_
      clear hK K
      refine wpAnyL_done (by kernel_rfl) ?_ _
      go_wp2
      go_roundw
      case rel => exact ⟨i + 1, ld.set i (da, dc1), hi, by go_num, hide (by rw [List.length_set]; exact unhide HL), hide (unhide HNX), unhide HI2⟩
      case measure => simp [intOf]; omega
    · obtain rfl : i = n := by omega
      have hii : ¬ (i : Int) < (i : Int) := by omega
      have HLD : Hid (ld = o.st.seen.map turnD ++ [mkD]) := by
        have h1 := unhide HUT
        rw [unhide HND] at h1
        exact h1.all
      clear hi hin hii0 HL HUT
      go_wp2_with fail
      clear c0 c1 c2
      go_loopw [3] (fun s3 wr => ∃ (j : Nat) (lb : List Sb), j ≤ m ∧ s3 = .int .i64 (j : Int) ∧ Hid (lb.length = m + 1) ∧ Hid (upTo turnS o.st.sibs mkS j lb) ∧ Hid (Tn u wr N B o.key gd xsc i gs xbc m ld lb)) (fun s3 _ => m - (intOf s3).toNat)
      case atStart => exact ⟨0, _, Nat.zero_le _, rfl, hide (by rw [unhide HMD]; simp), upTo.zero _ _ _, unhide HI⟩
      case round =>
        clear HI
        obtain ⟨j, lb, hjm, rfl, HM, HUT, HI⟩ := hrel
        obtain ⟨c0, c1, c2⟩ := ob_cells (unhide HI).box
        have hjj0 : (j : Int) ≤ 3518437208780 := by omega
        by_cases hj : j < m
        · have hjj : (j : Int) < (m : Int) := by omega
          have hil : j < o.st.sibs.length := by rw [← unhide HMD]; exact hj
          have hir : j < lb.length := by rw [unhide HM]; omega
          have hat : lb[j] = o.st.sibs[j] := by
            have := (unhide HUT).at hil
            rw [List.getElem?_eq_getElem hir] at this
            exact Option.some.inj this
          obtain ⟨sa, sc, sg, sv, hdd⟩ : ∃ sa sc sg sv, o.st.sibs[j] = ⟨sa, sc, sg, sv⟩ := ⟨_, _, _, _, rfl⟩
          have hvz := unhide HVS _ (List.getElem_mem hil)
          rw [hdd] at hvz
          have hvz : sv.size ≤ 140737488355328 := hvz
          have hix : ∀ G : World, (Instr.indexAt 29 (.slice (some ⟨gs, 0, none⟩) m xbc) (.int .i64 (j : Int))).run Try.prog G = .ok (.pointer (some ⟨gs, j * 4, none⟩)) G := fun G => by have := ixS gs 0 m xbc j hj G; rwa [Nat.zero_add] at this
          have hcg := ((unhide HI).cellS hir).1
          rw [hat, hdd] at hcg
          cases sg with
          | true =>
            have HNX : Hid (upTo turnS o.st.sibs mkS (j + 1) lb) := (unhide HUT).stay hil (by rw [hdd]; rfl)
            have hcg : wr.cell? ⟨gs, j * 4 + 2, none⟩ = some (.bool true) := hcg
            clear hat hdd hvz
            go_wp2_with fail
            go_roundw
            case rel => exact ⟨j + 1, lb, hj, by go_num, HM, unhide HNX, unhide HI⟩
            case measure => simp [intOf]; omega
          | false =>
            have hcg : wr.cell? ⟨gs, j * 4 + 2, none⟩ = some (.bool false) := hcg
            obtain ⟨pv, hpv⟩ : ∃ pv : ByteArray, pv = ⟨#[43]⟩ ++ sv := ⟨_, rfl⟩
            have HNX : Hid (upTo turnS o.st.sibs mkS (j + 1) (lb.set j ⟨sa, sc, false, pv⟩)) := by
              have := (unhide HUT).next hil hir
              rw [hdd] at this
              rw [hpv]
              exact this
            have HCL : Hid (∀ V : World, Below wr.heap.size wr V → V.cell? ⟨gs, j * 4 + 3, none⟩ = some (.string sv)) := fun V hV => by
              have := (((unhide HI).belw hV).cellS hir).2
              rw [hat, hdd] at this
              exact this
            have HSD : Hid (∀ V : World, Tn u V N B o.key gd xsc i gs xbc m ld lb → Tn u (V.setCell ⟨gs, j * 4 + 3, none⟩ (.string pv)) N B o.key gd xsc i gs xbc m ld (lb.set j ⟨sa, sc, false, pv⟩)) := fun V hV => by
              have := hV.setS0 j pv hir
              rw [hat, hdd] at this
              exact this
            have hcat : ∀ G : World, (Op.stringOp .add (⟨#[43]⟩ : ByteArray) sv).run Try.prog G = .ok (.string pv) G := fun G => by
              rw [hpv]
              have h1 : ((⟨#[43]⟩ : ByteArray).size : Int) = 1 := rfl
              unfold Op.stringOp
              simp [h1]
              omega
            clear hat hdd hpv hvz
            go_wp2_with fail
            clear c0 c1 c2 hcg
            refine wp_region_last (fun V => Below wr.heap.size wr V) 14 hmix (belowDrew (Below.refl _ _)) fun hS => ?_
            have HIZ := hide ((unhide HI).belw (belowDrew (Below.refl _ _)))
            generalize wr.drew = Z0 at hS HIZ ⊢
            refine wpAnyL_take 0 42 (.pointer (some ⟨N, 1, none⟩)) [] rfl rfl (by kernel_rfl) (by kernel_rfl) (by kernel_rfl) (by kernel_rfl) (by kernel_rfl) (fun _ _ _ h => h) (by rfl) (fun _ _ => by go_simp) hS ?_
            simp only [Act.put, List.setIfInBounds_toArray, List.set_cons_zero, List.set_cons_succ]
            refine wpAnyL_take 1 43 (.pointer (some ⟨N, 2, none⟩)) [] rfl rfl (by kernel_rfl) (by kernel_rfl) (by kernel_rfl) (by kernel_rfl) (by kernel_rfl) (fun _ _ _ h => h) (by rfl) (fun _ _ => by go_simp) hS ?_
            simp only [Act.put, List.setIfInBounds_toArray, List.set_cons_zero, List.set_cons_succ]
            refine wpAnyL_take 2 44 (.slice (some ⟨gs, 0, none⟩) m xbc) [] rfl rfl (by kernel_rfl) (by kernel_rfl) (by kernel_rfl) (by kernel_rfl) (by kernel_rfl) (fun _ _ _ h => h) (by rfl) (fun V hV => by obtain ⟨c0, c1, c2⟩ := ob_cells (box_below (unhide HI).box hV); go_simp) hS ?_
            simp only [Act.put, List.setIfInBounds_toArray, List.set_cons_zero, List.set_cons_succ]
            refine wpAnyL_take 3 45 (.int .i64 (j : Int)) [] rfl rfl (by kernel_rfl) (by kernel_rfl) (by kernel_rfl) (by kernel_rfl) (by kernel_rfl) (fun _ _ _ h => h) (by rfl) (fun _ _ => by go_simp) hS ?_
            simp only [Act.put, List.setIfInBounds_toArray, List.set_cons_zero, List.set_cons_succ]
            refine wpAnyL_take 4 46 (.pointer (some ⟨N, 1, none⟩)) [] rfl rfl (by kernel_rfl) (by kernel_rfl) (by kernel_rfl) (by kernel_rfl) (by kernel_rfl) (fun _ _ _ h => h) (by rfl) (fun _ _ => by go_simp) hS ?_
            simp only [Act.put, List.setIfInBounds_toArray, List.set_cons_zero, List.set_cons_succ]
            refine wpAnyL_take 5 47 (.pointer (some ⟨N, 2, none⟩)) [] rfl rfl (by kernel_rfl) (by kernel_rfl) (by kernel_rfl) (by kernel_rfl) (by kernel_rfl) (fun _ _ _ h => h) (by rfl) (fun _ _ => by go_simp) hS ?_
            simp only [Act.put, List.setIfInBounds_toArray, List.set_cons_zero, List.set_cons_succ]
            refine wpAnyL_take 6 48 (.slice (some ⟨gs, 0, none⟩) m xbc) [] rfl rfl (by kernel_rfl) (by kernel_rfl) (by kernel_rfl) (by kernel_rfl) (by kernel_rfl) (fun _ _ _ h => h) (by rfl) (fun V hV => by obtain ⟨c0, c1, c2⟩ := ob_cells (box_below (unhide HI).box hV); go_simp) hS ?_
            simp only [Act.put, List.setIfInBounds_toArray, List.set_cons_zero, List.set_cons_succ]
            refine wpAnyL_take 7 49 (.int .i64 (j : Int)) [] rfl rfl (by kernel_rfl) (by kernel_rfl) (by kernel_rfl) (by kernel_rfl) (by kernel_rfl) (fun _ _ _ h => h) (by rfl) (fun _ _ => by go_simp) hS ?_
            simp only [Act.put, List.setIfInBounds_toArray, List.set_cons_zero, List.set_cons_succ]
            refine wpAnyL_take 8 50 (.pointer (some ⟨gs, j * 4, none⟩)) [] rfl rfl (by kernel_rfl) (by kernel_rfl) (by kernel_rfl) (by kernel_rfl) (by kernel_rfl) (fun _ _ _ h => h) (by rfl) (fun V _ => by have h := hix V; go_simp) hS ?_
            simp only [Act.put, List.setIfInBounds_toArray, List.set_cons_zero, List.set_cons_succ]
            refine wpAnyL_take 9 51 (.pointer (some ⟨gs, j * 4 + 3, none⟩)) [] rfl rfl (by kernel_rfl) (by kernel_rfl) (by kernel_rfl) (by kernel_rfl) (by kernel_rfl) (fun _ _ _ h => h) (by rfl) (fun _ _ => by go_simp) hS ?_
            simp only [Act.put, List.setIfInBounds_toArray, List.set_cons_zero, List.set_cons_succ]
            refine wpAnyL_take 10 52 (.string sv) [] rfl rfl (by kernel_rfl) (by kernel_rfl) (by kernel_rfl) (by kernel_rfl) (by kernel_rfl) (fun _ _ _ h => h) (by rfl) (fun V hV => by have h := unhide HCL V hV; go_simp) hS ?_
            simp only [Act.put, List.setIfInBounds_toArray, List.set_cons_zero, List.set_cons_succ]
            refine wpAnyL_take 11 53 (.string pv) [] rfl rfl (by kernel_rfl) (by kernel_rfl) (by kernel_rfl) (by kernel_rfl) (by kernel_rfl) (fun _ _ _ h => h) (by rfl) (fun V _ => by have h := hcat V; go_simp) hS ?_
            simp only [Act.put, List.setIfInBounds_toArray, List.set_cons_zero, List.set_cons_succ]
            refine wpAnyL_take 12 54 (.pointer (some ⟨gs, j * 4, none⟩)) [13] rfl rfl (by kernel_rfl) (by kernel_rfl) (by kernel_rfl) (by kernel_rfl) (by kernel_rfl) (fun _ _ _ h => h) (by rfl) (fun V _ => by have h := hix V; go_simp) hS ?_
            simp only [Act.put, List.setIfInBounds_toArray, List.set_cons_zero, List.set_cons_succ]
            refine wpAnyL_take 13 55 (.pointer (some ⟨gs, j * 4 + 3, none⟩)) [] rfl rfl (by kernel_rfl) (by kernel_rfl) (by kernel_rfl) (by kernel_rfl) (by kernel_rfl) (fun _ _ _ h => h) (by rfl) (fun _ _ => by go_simp) hS ?_
            simp only [Act.put, List.setIfInBounds_toArray, List.set_cons_zero, List.set_cons_succ]
            refine wpAnyL_one (i := 14) (by kernel_rfl) rfl (by rfl) fun K hK => ?_
            refine wp_store_s (.tmp 55) (.tmp 53) 9 (by rfl) (by rfl) gs (j * 4 + 3) pv (by with_unfolding_all rfl) (by with_unfolding_all rfl) ((unhide HIZ).thereS (by rw [unhide HM]; omega)) (by kernel_rfl) ?_
            have HI2 := hide (unhide HSD _ (unhide HIZ))
            generalize Z0.setCell ⟨gs, j * 4 + 3, none⟩ (.string pv) = Z1 at HI2 ⊢
            refine hK _ _ (fun h => absurd rfl h) ?_
            clear hK K
            refine wpAnyL_done (by kernel_rfl) ?_ _
            go_wp2
            go_roundw
            case rel => exact ⟨j + 1, lb.set j ⟨sa, sc, false, pv⟩, hj, by go_num, hide (by rw [List.length_set]; exact unhide HM), hide (unhide HNX), unhide HI2⟩
            case measure => simp [intOf]; omega
        · obtain rfl : j = m := by omega
          have hjj : ¬ (j : Int) < (j : Int) := by omega
          have HLB : Hid (lb = o.st.sibs.map turnS ++ [mkS]) := by
            have h1 := unhide HUT
            rw [unhide HMD] at h1
            exact h1.all
          clear hj hjm hjj0 HM HUT
          go_wp2_with fail
          go_returns
          refine ⟨rfl, ⟨?_, ?_⟩, (unhide HI).os, (unhide HI).tape, (unhide HI).output, (unhide HI).size, (unhide HI).block⟩
          · have := (unhide HI).od
            rw [unhide HLD] at this
            exact this
          · have := (unhide HI).ob
            rw [unhide HLB] at this
            exact this
end Go.Proofs.Ytkcbljmjhlnjpaa
