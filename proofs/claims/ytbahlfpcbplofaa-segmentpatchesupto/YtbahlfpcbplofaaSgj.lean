/- Segments: marks, lists that are lent, whether they are kept; Same. Written by mksgj.py. -/
import Derived.Test.YtbahlfpcbplofaaSgi
namespace Go.Proofs.Ytbahlfpcbplofaa.S
open Go.RowKit Go.Lib
/- equality of cells -/
noncomputable def enF (i : Nat) : Field := (Try.prog.fieldsOf 43).getD i default
theorem enFs : (Try.prog.fieldsOf 43).toList = [enF 0, enF 1] := by kernel_rfl
theorem enm0 : (enF 0).name ≠ "_" := of_decide_eq_true (by kernel_rfl)
theorem enm1 : (enF 1).name ≠ "_" := of_decide_eq_true (by kernel_rfl)
section
variable (a b c d : ByteArray) (u : World)
theorem ept0 : (part (enF 0).type #[.string a, .string b] (enF 0).offset).run Try.prog u = .ok (.string a) u := by kernel_rfl
theorem ept1 : (part (enF 1).type #[.string a, .string b] (enF 1).offset).run Try.prog u = .ok (.string b) u := by kernel_rfl
theorem eeq0 : (Op.equalIn 9999 (enF 0).type (.string a) (.string b)).run Try.prog u = .ok (a.toList == b.toList) u := run_equalIn_string u 9998 (enF 0).type a b (by kernel_rfl)
theorem eeq1 : (Op.equalIn 9999 (enF 1).type (.string a) (.string b)).run Try.prog u = .ok (a.toList == b.toList) u := run_equalIn_string u 9998 (enF 1).type a b (by kernel_rfl)
theorem eeqFs : (Op.eqFields 9999 #[.string a, .string b] #[.string c, .string d] (Try.prog.fieldsOf 43).toList).run Try.prog u = .ok ((a.toList == c.toList) && (b.toList == d.toList)) u := by
  rw [enFs]
  have h1 : (Op.eqFields 9999 #[.string a, .string b] #[.string c, .string d] [enF 1]).run Try.prog u = .ok (b.toList == d.toList) u := by
    simp only [Op.eqFields, if_pos enm1, Sem.run_bind, ept1, eeq1, Result.andThen_ok]
    cases (b.toList == d.toList) <;> simp
  rw [Op.eqFields, if_pos enm0]
  simp only [Sem.run_bind, ept0, eeq0, Result.andThen_ok]
  cases (a.toList == c.toList)
  · simp
  · simp only [Bool.not_true, Bool.false_eq_true, if_false, Bool.true_and]
    exact h1
theorem eqlEn : (binOp .eql 43 (.agg #[.string a, .string b]) (.agg #[.string c, .string d])).run Try.prog u = .ok (.bool ((a.toList == c.toList) && (b.toList == d.toList))) u := by
  rw [run_eql_struct, run_equalIn_agg u 9999 43 _ _ (by kernel_rfl) (by kernel_rfl), eeqFs]
  rfl
theorem neqEn : (binOp .neq 43 (.agg #[.string a, .string b]) (.agg #[.string c, .string d])).run Try.prog u = .ok (.bool (!((a.toList == c.toList) && (b.toList == d.toList)))) u := by
  rw [run_neq_struct, run_equalIn_agg u 9999 43 _ _ (by kernel_rfl) (by kernel_rfl), eeqFs]
  rfl
end

theorem ba_beq (a b : ByteArray) : (a.toList == b.toList) = decide (a = b) := by
  by_cases h : a = b
  · rw [h, decide_eq_true rfl]; simp
  · rw [decide_eq_false h, beq_eq_false_iff_ne]; exact fun e => h (ba_list e)
theorem eqlE (x y : En) (u : World) : (binOp .eql 43 (.agg #[.string x.1, .string x.2]) (.agg #[.string y.1, .string y.2])).run Try.prog u = .ok (.bool (decide (x = y))) u := by
  rw [eqlEn, ba_beq, ba_beq, ← Bool.decide_and]
  congr 2
  rw [decide_eq_decide]
  exact Prod.ext_iff.symm
theorem neqE (x y : En) (u : World) : (binOp .neq 43 (.agg #[.string x.1, .string x.2]) (.agg #[.string y.1, .string y.2])).run Try.prog u = .ok (.bool (!decide (x = y))) u := by
  rw [neqEn, ba_beq, ba_beq, ← Bool.decide_and]
  congr 3
  rw [decide_eq_decide]
  exact Prod.ext_iff.symm
/- Same -/
set_option maxRecDepth 100000 in
set_option maxHeartbeats 2000000 in
theorem qSame (a b : List En) (ao bo : Option Addr) (n m c d : Nat) (u : World) (h : El u a ao n c) (h' : El u b bo m d) : Calls Try.prog 37 #[.slice ao n c, .slice bo m d] u fun e u' => e = .returned (.bool (decide (a = b))) ∧ Below u.heap.size u u' := by
  have hnf := h.few
  have hmf := h'.few
  have hni : (n : Int) ≤ 4398046511000 := by omega
  have hmi : (m : Int) ≤ 4398046511000 := by omega
  by_cases hnm : n = m
  · subst hnm
    have HQ := hide h
    have HQ' := hide h'
    have HLN := hide h.hn
    have HLN' := hide h'.hn
    have HE : Hid (∀ i (hi : i < a.length) (hi' : i < b.length), a[i] ≠ b[i] → decide (a = b) = false) := fun i hi hi' hne => decide_eq_false fun e => hne (by subst e; rfl)
    have HT : Hid ((∀ i (hi : i < a.length) (hi' : i < b.length), a[i] = b[i]) → decide (a = b) = true) := fun hg => decide_eq_true (List.ext_getElem (by rw [← unhide HLN, ← unhide HLN']) fun i h1 h2 => hg i h1 h2)
    generalize decide (a = b) = ok at *
    clear h h' hnf hmf hmi
    go_enter Try.func37, Try.ntmps37
    go_wp2
    go_loopw [5] (fun i wr => ∃ k : Nat, k ≤ n ∧ i = .int .i64 k ∧ Hid (Below u.heap.size u wr ∧ ∀ j (hj : j < a.length) (hj' : j < b.length), j < k → a[j] = b[j])) (fun i _ => n - (intOf i).toNat)
    case atStart => exact ⟨0, Nat.zero_le _, rfl, Below.refl _ _, fun j _ _ hj => absurd hj (Nat.not_lt_zero _)⟩
    case round =>
      obtain ⟨k, hk, rfl, HI⟩ := hrel
      by_cases hlt : k < n
      · have hki : (k : Int) < (n : Int) := by omega
        have hka : k < a.length := by rw [← unhide HLN]; exact hlt
        have hkb : k < b.length := by rw [← unhide HLN']; exact hlt
        have HBR := hide (unhide HI).1
        obtain ⟨g, o, hao, c1, c2⟩ := ((unhide HQ).below (unhide HBR)).en hka
        obtain ⟨g', o', hbo, d1, d2⟩ := ((unhide HQ').below (unhide HBR)).en hkb
        subst hao hbo
        have hix := ixE g o n c k hlt
        have hix' := ixE g' o' n d k hlt
        have HR : Hid (a[k] = b[k] → ∀ j (hj : j < a.length) (hj' : j < b.length), j < k + 1 → a[j] = b[j]) := fun hg j hj hj' hjk => by
          rcases Nat.lt_succ_iff_lt_or_eq.1 hjk with h | rfl
          · exact (unhide HI).2 j hj hj' h
          · exact hg
        have HE1 := hide (unhide HE k hka hkb)
        have hne := neqE a[k] b[k]
        generalize a[k] = x at *
        generalize b[k] = y at *
        clear HI HE
        generalize o + k * 2 = oo at *
        generalize o' + k * 2 = op at *
        by_cases hxy : x = y
        · rw [decide_eq_true hxy, show (!true) = false from rfl] at hne
          have HXY := hide hxy
          clear hxy
          obtain ⟨x1, x2⟩ := x
          obtain ⟨y1, y2⟩ := y
          go_wp2_with fail
          go_quiet (fail)
          go_wp2
          go_roundw
          case rel => exact ⟨k + 1, by omega, by go_num, belowDrewN (unhide HBR) _, unhide HR (unhide HXY)⟩
          case measure => simp [intOf]; omega
        · rw [decide_eq_false hxy, show (!false) = true from rfl] at hne
          have HB := hide (unhide HE1 hxy)
          clear hxy
          obtain ⟨x1, x2⟩ := x
          obtain ⟨y1, y2⟩ := y
          go_wp2_with fail
          go_quiet (fail)
          go_wp2
          go_ret
          exact ⟨by rw [unhide HB]; rfl, belowDrewN (unhide HBR) _⟩
      · obtain rfl : k = n := by omega
        have hki : ¬ (k : Int) < (k : Int) := by omega
        go_wp2
        go_ret
        refine ⟨?_, (unhide HI).1⟩
        rw [unhide HT fun i hi hi' => (unhide HI).2 i hi hi' (by rw [unhide HLN]; exact hi)]
        rfl
  · rw [decide_eq_false (fun e => hnm (by rw [h.hn, h'.hn, e]))]
    have hne : ¬ (n : Int) = (m : Int) := by omega
    have hne2 : ((n : Int) != (m : Int)) = true := by simpa using hne
    clear h h'
    go_enter Try.func37, Try.ntmps37
    go_wp2
    go_ret
    exact ⟨rfl, Below.refl _ _⟩
/- marks -/
def mkW : ByteArray := ⟨#[109, 97, 114, 107]⟩
def markE (k : Nat) : En := (mkW, Utf8.encode (97 + (k : Int)))
def marks : List En := (List.range 70).map markE
theorem marks_len : marks.length = 70 := by simp [marks]
theorem marks_take {k : Nat} (h : k < 70) : marks.take (k + 1) = marks.take k ++ [markE k] := by
  rw [List.take_succ_eq_append_getElem (by rw [marks_len]; exact h)]
  congr 2
  simp [marks]
theorem markE_1 (k : Nat) : (markE k).1 = mkW := by simp only [markE]
theorem markE_2 (k : Nat) : (markE k).2 = Utf8.encode (97 + (k : Int)) := by simp only [markE]
set_option maxRecDepth 100000 in
theorem lMark (k : Nat) (hk : k < 70) (u : World) : Calls Try.prog 62 #[.int .i64 (k : Int)] u fun e u' => e = .returned (.agg #[.string (markE k).1, .string (markE k).2]) ∧ Below u.heap.size u u' := by
  have hki : (k : Int) < 70 := by omega
  have hw : IntKind.i32.wrap (97 + (k : Int)) = 97 + (k : Int) := by rw [IntKind.wrap_i32]; omega
  obtain ⟨q, hq⟩ : ∃ q, q = Utf8.encode (97 + (k : Int)) := ⟨_, rfl⟩
  rw [markE_1, markE_2, ← hq]
  have hcv : ∀ W : World, (convert 21 9 (.int .i32 (97 + (k : Int)))).run Try.prog W = .ok (.string q) W := fun W => by rw [run_convert_int_string W 21 9 .i32 _ (by kernel_rfl) Try.underlying9, hq]
  clear hq
  go_enter Try.func62, Try.ntmps62
  go_wp2_with (first
    | ((with_reducible refine wpList_alloc_en (by rfl) (by rfl) (some 2) (by rfl) u.heap.size rfl ?_); intro W1 HX1 HB1 HS1; simp only [Act.put, List.setIfInBounds_toArray, List.set_cons_zero, List.set_cons_succ])
    | ((with_reducible refine wpList_store_en (by rfl) (.tmp 2) (.tmp 7) (by rfl) u.heap.size mkW q (by with_unfolding_all rfl) (by with_unfolding_all rfl) _ _ (unhide HX1) ?_); intro W2 HX2 HE2; simp only [Act.put])
    | fail)
  refine bodyPost_ret (results_cell rfl _ _ u.heap.size 43 #[.string mkW, .string q] (0, 0) _ rfl (unhide HX2) enUnd rfl enInfo) rfl ?_
  exact ⟨rfl, by rw [unhide HE2]; exact belowRow (unhide HB1) (Nat.le_refl _) _⟩
theorem RE.one (W : World) (e : En) (t : TypeId) : RE.At (W.alloc (.cells #[.string e.1, .string e.2] t)) [e] (some ⟨W.heap.size, 0, none⟩) 1 :=
  ⟨fun _ => ⟨_, 0, rfl, fun j v hv => by
    have h1 : (W.alloc (.cells #[.string e.1, .string e.2] t)).heap[W.heap.size]? = some (.cells #[.string e.1, .string e.2] t (0, 0)) := heap_alloc_new _ _
    simp only [World.cell?, h1, Nat.zero_add]
    simpa [Rec.flat, RE, ecs] using hv⟩, by simp, (fun e => by cases e), by simp⟩
theorem wpList_putE {ops : Array Oper} {rest : List Oper} {o : Oper} {a : Act} {w : World} {Q : Exit → Act → World → Prop} (hgd : o.guard = none) (s x : Operand) (ho : o.op = .call { callee := .builtin .append, args := #[s, x], argTypes := #[27, 27] }) (d : Option Tmp) (hd : o.dst = d)
    (B : Nat) (l m : List En) (n1 n2 : Nat) (e1 : n1 = l.length) (e2 : n2 = m.length) (ao bo : Option Addr) (c c2 : Nat) (hs : a.eval s = .slice ao n1 c) (hx : a.eval x = .slice bo n2 c2) (hown : RE.Own w B l ao c) (hm : RE.At w m bo c2) (hl : (l.length + m.length) * 32 ≤ 140737488355328) (hB : B ≤ w.heap.size)
    (h : ∀ ao' n' c' w', Hid (RE.Put w w' B l m ao c ao' n' c') → wpList Try.prog ops Q rest (a.put d (.slice ao' n' c')) w') : wpList Try.prog ops Q (o :: rest) a w :=
  RE.wpList_put hgd s x ho d hd B l m n1 n2 e1 e2 ao bo c c2 hs hx hown hm hl hB h
theorem wp_putE {o : Oper} {a : Act} {w : World} {K : Act → World → Prop} {Q : Exit → Act → World → Prop} (s x : Operand) (ho : o.op = .call { callee := .builtin .append, args := #[s, x], argTypes := #[27, 27] }) (d : Option Tmp) (hd : o.dst = d)
    (B : Nat) (l m : List En) (n1 n2 : Nat) (e1 : n1 = l.length) (e2 : n2 = m.length) (ao bo : Option Addr) (c c2 : Nat) (hs : a.eval s = .slice ao n1 c) (hx : a.eval x = .slice bo n2 c2) (hown : RE.Own w B l ao c) (hm : RE.At w m bo c2) (hl : (l.length + m.length) * 32 ≤ 140737488355328) (hB : B ≤ w.heap.size)
    (h : ∀ ao' n' c' w', Hid (RE.Put w w' B l m ao c ao' n' c') → K (a.put d (.slice ao' n' c')) w') : o.wp Try.prog a w K Q :=
  RE.wp_put s x ho d hd B l m n1 n2 e1 e2 ao bo c c2 hs hx hown hm hl hB h
theorem cutE (g n c i : Nat) (hi : i ≤ c) (h0 : 0 < c) (W : World) : (Instr.slice 27 (.slice (some ⟨g, 0, none⟩) n c) none (some (.int .i64 (i : Int))) none).run Try.prog W = .ok (.slice (some ⟨g, 0, none⟩) i c) W := by
  have he : Try.prog.elem 27 = 43 := by kernel_rfl
  rw [run_slice_h W 27 _ _ _ (by rw [he]; kernel_rfl) .i64 i (by omega) (by omega), he, sizeN (n := 2) (by kernel_rfl)]
  simp only [Result.andThen_ok, sliced, Int.toNat_natCast, Nat.sub_zero]
  rw [if_neg (by omega), Option.map_some, Addr.add_mid]
/-- a list that was lent: the marks lie behind it -/
structure Le (w : World) (B : Nat) (l : List En) (g n cc : Nat) : Prop where
  own : RE.Own w B (l ++ marks) (some ⟨g, 0, none⟩) cc
  hn : n = l.length
  many : l.length ≤ 4398046511000
theorem Le.cap {w : World} {B : Nat} {l : List En} {g n cc : Nat} (h : Le w B l g n cc) : n + 70 ≤ cc := by
  have := (own_lies h.own).2.1
  rw [List.length_append, marks_len] at this
  rw [h.hn]; exact this
theorem Le.el {w : World} {B : Nat} {l : List En} {g n cc : Nat} (h : Le w B l g n cc) : El w l (some ⟨g, 0, none⟩) n cc := by
  have h1 := (own_lies h.own).1
  rw [RE.flat_app] at h1
  exact ⟨⟨h1.pre, by have := h.cap; have := h.hn; omega, (fun e => by cases e), h.many⟩, h.hn⟩
theorem Le.below {w w' : World} {B : Nat} {l : List En} {g n cc : Nat} (h : Le w B l g n cc) (hb : Below w.heap.size w w') : Le w' B l g n cc := ⟨h.own.below hb, h.hn, h.many⟩
theorem Le.down {w : World} {B B' : Nat} {l : List En} {g n cc : Nat} (h : Le w B l g n cc) (hb : B' ≤ B) : Le w B' l g n cc := ⟨own_down h.own hb, h.hn, h.many⟩
theorem Le.mark {w : World} {B : Nat} {l : List En} {g n cc : Nat} (h : Le w B l g n cc) (k : Nat) (hk : k < 70) : w.cell? ⟨g, (n + k) * 2, none⟩ = some (.string (markE k).1) ∧ w.cell? ⟨g, (n + k) * 2 + 1, none⟩ = some (.string (markE k).2) := by
  have hlen : (l ++ marks).length = n + 70 := by rw [List.length_append, marks_len, h.hn]
  have hel : RE.At w (l ++ marks) (some ⟨g, 0, none⟩) cc → True := fun _ => trivial
  obtain ⟨g', o, e, h2⟩ := (own_lies h.own).1 (by rw [RE.flat_len, hlen]; exact Nat.mul_pos (by omega) RE.hn)
  cases e
  have hg : (l ++ marks)[n + k]'(by omega) = markE k := by
    have := h.hn
    rw [List.getElem_append_right (by omega)]
    simp only [marks, List.getElem_map, List.getElem_range]
    congr 1; omega
  have f0 := RE.flat_get (l ++ marks) (n + k) (by omega) 0 (by decide)
  have f1 := RE.flat_get (l ++ marks) (n + k) (by omega) 1 (by decide)
  rw [hg] at f0 f1
  have r0 := h2 _ _ (f0.trans rfl)
  have r1 := h2 _ _ (f1.trans rfl)
  rw [Nat.zero_add] at r0 r1
  exact ⟨r0, r1⟩
set_option maxRecDepth 100000 in
set_option maxHeartbeats 4000000 in
theorem lLent (l : List En) (ao : Option Addr) (n c : Nat) (u : World) (h : El u l ao n c) : Calls Try.prog 17 #[.slice ao n c] u fun e u' => ∃ g cc, e = .returned (.slice (some ⟨g, 0, none⟩) n cc) ∧ Le u' u.heap.size l g n cc ∧ Below u.heap.size u u' := by
  have HQ := hide h
  have hnf := h.few
  have hni : (n : Int) ≤ 4398046511000 := by omega
  have HLN := hide h.hn
  have HMN := hide h.many
  have HMK : Hid (∀ (k : Nat), k < 70 → ∀ w : World, Calls Try.prog 62 #[.int .i64 (k : Int)] w fun e w' => e = .returned (.agg #[.string (markE k).1, .string (markE k).2]) ∧ Below w.heap.size w w') := lMark
  have HTK : Hid (∀ k, k < 70 → marks.take (k + 1) = marks.take k ++ [markE k]) := fun k hk => marks_take hk
  have HL0 : Hid (([] : List En).length + l.length ≤ 4398046511104 ∧ (([] : List En).length + l.length) * 32 ≤ 140737488355328) := by
    have h1 := h.many
    refine ⟨by rw [List.length_nil]; omega, ?_⟩
    rw [List.length_nil]; omega
  have HLK : Hid (∀ k (e : En), ((l ++ marks.take k).length + [e].length) * 32 ≤ 140737488355328) := fun k e => by
    rw [List.length_singleton]
    have h1 := unhide HMN
    have h2 : (marks.take k).length ≤ 70 := by rw [List.length_take, marks_len]; omega
    rw [List.length_append]; omega
  clear h hnf
  go_enter Try.func17, Try.ntmps17
  go_wp2_with (first
    | (at_builtin; (with_reducible refine wpList_putE (by rfl) (.tmp 5) (.tmp 6) (by rfl) (some 7) (by rfl) u.heap.size [] l 0 n rfl (unhide HLN) none ao 0 c (by with_unfolding_all rfl) (by with_unfolding_all rfl) (Rec.Own.none _ _) (unhide HQ).toAt (unhide HL0).2 (Nat.le_refl _) ?_); intro x1 n1 c1 W1 HP1; simp only [Act.put, List.setIfInBounds_toArray, List.set_cons_zero, List.set_cons_succ])
    | fail)
  go_loopw [3, 4] (fun s i wr => ∃ (k n' c' : Nat) (xo : Option Addr), k ≤ 70 ∧ i = .int .i64 k ∧ s = .slice xo n' c' ∧ Hid (n' = (l ++ marks.take k).length ∧ RE.Own wr u.heap.size (l ++ marks.take k) xo c' ∧ Below u.heap.size u wr)) (fun _ i _ => 70 - (intOf i).toNat)
  case atStart => exact ⟨0, n1, c1, x1, by decide, rfl, rfl, by rw [List.take_zero, List.append_nil]; exact ⟨(unhide HP1).len, (unhide HP1).own, (unhide HP1).below⟩⟩
  case round =>
    clear HP1
    obtain ⟨k, n2, c2, x2, hk, rfl, rfl, HI⟩ := hrel
    by_cases hlt : k < 70
    · have hki : (k : Int) < 70 := by omega
      have HM1 := hide (unhide HMK k hlt)
      have HT1 := hide (unhide HTK k hlt)
      have HL1 := hide (unhide HLK k (markE k))
      generalize marks.take k = mk at *
      generalize hme : markE k = me at *
      obtain ⟨m1, m2⟩ := me
      have HM1 : Hid (∀ w : World, Calls Try.prog 62 #[.int .i64 (k : Int)] w fun e w' => e = .returned (.agg #[.string m1, .string m2]) ∧ Below w.heap.size w w') := HM1
      clear hme
      go_wp2_with (first
        | (go_at_call 62; refine (unhide HM1 _).mono ?_; rintro e W3 ⟨rfl, hb⟩; have HB3 : Hid (Below u.heap.size u W3) := (unhide HI).2.2.trans (hb.mono (unhide HI).2.2.size); have HO3 : Hid (RE.Own (W3.alloc (.cells #[.string m1, .string m2] 43)) u.heap.size (l ++ mk) x2 c2) := ((unhide HI).2.1.below hb).below ((Below.refl _ _).alloc (Nat.le_refl _) _); have HSZ : Hid (u.heap.size ≤ (W3.alloc (.cells #[.string m1, .string m2] 43)).heap.size) := Nat.le_trans (unhide HB3).size ((Below.refl W3.heap.size W3).alloc (Nat.le_refl _) _).size; have HA3 : Hid (RE.At (W3.alloc (.cells #[.string m1, .string m2] 43)) [(m1, m2)] (some ⟨W3.heap.size, 0, none⟩) 1) := RE.one W3 (m1, m2) _; clear hb)
        | (at_builtin; (with_reducible refine wpList_putE (by rfl) (.tmp 12) (.tmp 15) (by rfl) (some 16) (by rfl) u.heap.size (l ++ mk) [(m1, m2)] n2 1 (unhide HI).1 rfl x2 (some ⟨W3.heap.size, 0, none⟩) c2 1 (by with_unfolding_all rfl) (by with_unfolding_all rfl) (unhide HO3) (unhide HA3) (unhide HL1) (unhide HSZ) ?_); intro x4 n4 c4 W4 HP4; simp only [Act.put, List.setIfInBounds_toArray, List.set_cons_zero, List.set_cons_succ]; have HB4 : Hid (Below u.heap.size u W4) := ((unhide HB3).trans (((Below.refl W3.heap.size W3).alloc (Nat.le_refl _) _).mono (unhide HB3).size)).trans (unhide HP4).below)
        | fail)
      go_wp2
      go_roundw
      case rel => exact ⟨k + 1, n4, c4, x4, by omega, by go_num, rfl, by rw [unhide HT1, ← List.append_assoc]; exact ⟨(unhide HP4).len, (unhide HP4).own, unhide HB4⟩⟩
      case measure => simp [intOf]; omega
    · obtain rfl : k = 70 := by omega
      have HO : Hid (n2 = (l ++ marks).length ∧ RE.Own wr u.heap.size (l ++ marks) x2 c2) := by
        have := unhide HI
        rw [List.take_of_length_le (by rw [marks_len]; exact Nat.le_refl _)] at this
        exact ⟨this.1, this.2.1⟩
      obtain ⟨g, hg⟩ : ∃ g, x2 = some ⟨g, 0, none⟩ := by
        rcases (unhide HO).2.2 with ⟨_, hz⟩ | ⟨g, cap, cur, hv, _⟩
        · rw [List.length_append, marks_len] at hz; omega
        · simp only [Value.slice.injEq] at hv; exact ⟨g, hv.1⟩
      subst hg
      have HLE : Hid (Le wr u.heap.size l g n c2) := ⟨(unhide HO).2, unhide HLN, unhide HMN⟩
      have hcut := cutE g n2 c2 n (by have h1 := (unhide HLE).cap; omega) (by have h1 := (unhide HLE).cap; omega)
      go_wp2
      go_ret
      exact ⟨g, c2, rfl, unhide HLE, (unhide HI).2.2⟩
theorem entMK : ∀ args (w : World), (callFunc 62 args).run Try.prog w = .ok (.enter 62 args) w := by
  intro args w
  go_simp
set_option maxRecDepth 100000 in
set_option maxHeartbeats 4000000 in
theorem lKept (l : List En) (B g n cc : Nat) (xo : Option Addr) (c : Nat) (u : World) (h : Le u B l g n cc) (h' : El u l xo n c) : Calls Try.prog 26 #[.slice (some ⟨g, 0, none⟩) n cc, .slice xo n c] u fun e u' => e = .returned (.bool true) ∧ Below u.heap.size u u' := by
  have hmix : Try.prog.follows .mixedOrders = true := by kernel_rfl
  have hnf := h.el.few
  have hni : (n : Int) ≤ 4398046511000 := by omega
  have HQS : Hid (∀ W : World, Below u.heap.size u W → Calls Try.prog 37 #[.slice (some ⟨g, 0, none⟩) n cc, .slice xo n c] W fun e u' => e = .returned (.bool true) ∧ Below W.heap.size W u') := fun W hW => by
    have := qSame l l _ _ n n cc c W (h.el.below hW) (h'.below hW)
    rwa [decide_eq_true rfl] at this
  have HMK : Hid (∀ (k : Nat), k < 70 → ∀ w : World, Calls Try.prog 62 #[.int .i64 (k : Int)] w fun e w' => e = .returned (.agg #[.string (markE k).1, .string (markE k).2]) ∧ Below w.heap.size w w') := lMark
  have HCE : Hid (∀ k, k < 70 → ∀ W : World, Below u.heap.size u W → W.cell? ⟨g, (n + k) * 2, none⟩ = some (.string (markE k).1) ∧ W.cell? ⟨g, (n + k) * 2 + 1, none⟩ = some (.string (markE k).2)) := fun k hk W hW => (h.below hW).mark k hk
  have hcap := h.cap
  obtain ⟨n70, hn70⟩ : ∃ m, m = n + 70 := ⟨_, rfl⟩
  have hn70i : (n : Int) + 70 = (n70 : Int) := by omega
  have hw70 : IntKind.i64.wrap ((n : Int) + 70) = (n70 : Int) := by rw [IntKind.wrap_i64]; omega
  have hcut := cutE g n cc n70 (by omega) (by omega)
  have HN70 := hide hn70
  clear h h' hnf hn70
  go_enter Try.func26, Try.ntmps26
  go_wp2
  clear hcut
  go_loopw [6] (fun i wr => ∃ k : Nat, k ≤ 70 ∧ i = .int .i64 k ∧ Hid (Below u.heap.size u wr)) (fun i _ => 70 - (intOf i).toNat)
  case atStart => exact ⟨0, by decide, rfl, Below.refl _ _⟩
  case round =>
    obtain ⟨k, hk, rfl, HI⟩ := hrel
    by_cases hlt : k < 70
    · have hki : (k : Int) < 70 := by omega
      have HM1 := hide (unhide HMK k hlt)
      have hC1 := unhide HCE k hlt
      obtain ⟨j, hj⟩ : ∃ j, j = n + k := ⟨_, rfl⟩
      rw [← hj] at hC1
      have hix : ∀ W : World, (Instr.indexAt 27 (.slice (some ⟨g, 0, none⟩) n70 cc) (.int .i64 (j : Int))).run Try.prog W = .ok (.pointer (some ⟨g, j * 2, none⟩)) W := fun W => by
        have := ixE g 0 n70 cc j (by have := unhide HN70; omega) W
        rwa [Nat.zero_add] at this
      have hjw : IntKind.i64.wrap ((n : Int) + (k : Int)) = (j : Int) := by rw [IntKind.wrap_i64]; omega
      have hne := neqE (markE k) (markE k)
      rw [decide_eq_true rfl, show (!true) = false from rfl] at hne
      generalize markE k = me at *
      obtain ⟨m1, m2⟩ := me
      have hC1 : ∀ W : World, Below u.heap.size u W → W.cell? ⟨g, j * 2, none⟩ = some (.string m1) ∧ W.cell? ⟨g, j * 2 + 1, none⟩ = some (.string m2) := hC1
      have HM1 : Hid (∀ w : World, Calls Try.prog 62 #[.int .i64 (k : Int)] w fun e w' => e = .returned (.agg #[.string m1, .string m2]) ∧ Below w.heap.size w w') := HM1
      generalize j * 2 = oo at *
      clear hj
      go_wp2_with fail
      refine wp_region_last (fun V => Below u.heap.size u V) 9 hmix (belowDrew (unhide HI)) fun hS => ?_
      generalize wr.drew = X0 at hS ⊢
      refine wpAnyL_take 0 16 (.slice (some ⟨g, 0, none⟩) n70 cc) [5, 6] rfl rfl (by kernel_rfl) (by kernel_rfl) (by kernel_rfl) (by kernel_rfl) (by kernel_rfl) (fun _ _ _ h => h) (by rfl) (fun _ _ => by go_simp) hS ?_
      simp only [Act.put, List.setIfInBounds_toArray, List.set_cons_zero, List.set_cons_succ]
      refine wpAnyL_take 1 17 (.slice xo n c) [2, 4, 5, 6] rfl rfl (by kernel_rfl) (by kernel_rfl) (by kernel_rfl) (by kernel_rfl) (by kernel_rfl) (fun _ _ _ h => h) (by rfl) (fun _ _ => by go_simp) hS ?_
      simp only [Act.put, List.setIfInBounds_toArray, List.set_cons_zero, List.set_cons_succ]
      refine wpAnyL_take 2 18 (.int .i64 (n : Int)) [4, 5, 6] rfl rfl (by kernel_rfl) (by kernel_rfl) (by kernel_rfl) (by kernel_rfl) (by kernel_rfl) (fun _ _ _ h => h) (by rfl) (fun _ _ => by go_simp) hS ?_
      simp only [Act.put, List.setIfInBounds_toArray, List.set_cons_zero, List.set_cons_succ]
      refine wpAnyL_take 3 19 (.int .i64 (k : Int)) [4, 5, 6] rfl rfl (by kernel_rfl) (by kernel_rfl) (by kernel_rfl) (by kernel_rfl) (by kernel_rfl) (fun _ _ _ h => h) (by rfl) (fun _ _ => by go_simp) hS ?_
      simp only [Act.put, List.setIfInBounds_toArray, List.set_cons_zero, List.set_cons_succ]
      refine wpAnyL_take 4 20 (.int .i64 (j : Int)) [5, 6] rfl rfl (by kernel_rfl) (by kernel_rfl) (by kernel_rfl) (by kernel_rfl) (by kernel_rfl) (fun _ _ _ h => h) (by rfl) (fun _ _ => by go_simp) hS ?_
      simp only [Act.put, List.setIfInBounds_toArray, List.set_cons_zero, List.set_cons_succ]
      refine wpAnyL_take 5 21 (.pointer (some ⟨g, oo, none⟩)) [6] rfl rfl (by kernel_rfl) (by kernel_rfl) (by kernel_rfl) (by kernel_rfl) (by kernel_rfl) (fun _ _ _ h => h) (by rfl) (fun _ _ => by go_simp) hS ?_
      simp only [Act.put, List.setIfInBounds_toArray, List.set_cons_zero, List.set_cons_succ]
      refine wpAnyL_take 6 22 (.agg #[.string m1, .string m2]) [] rfl rfl (by kernel_rfl) (by kernel_rfl) (by kernel_rfl) (by kernel_rfl) (by kernel_rfl) (fun _ _ _ h => h) (by rfl) (fun W hW => by obtain ⟨e1, e2⟩ := hC1 W hW; go_simp) hS ?_
      simp only [Act.put, List.setIfInBounds_toArray, List.set_cons_zero, List.set_cons_succ]
      refine wpAnyL_take 7 23 (.int .i64 (k : Int)) [8] rfl rfl (by kernel_rfl) (by kernel_rfl) (by kernel_rfl) (by kernel_rfl) (by kernel_rfl) (fun _ _ _ h => h) (by rfl) (fun _ _ => by go_simp) hS ?_
      simp only [Act.put, List.setIfInBounds_toArray, List.set_cons_zero, List.set_cons_succ]
      refine wpAnyL_one (i := 8) (by kernel_rfl) rfl (by rfl) fun K hK => ?_
      refine wp_call_fn 62 _ _ (by rfl) #[.int .i64 (k : Int)] (by with_unfolding_all rfl) entMK (some 24) (by rfl) _ (asV (unhide HM1 _)) ?_
      rintro _ X1 ⟨rfl, hb⟩
      have HBX : Hid (Below u.heap.size u X1) := hS.trans (hb.mono hS.size)
      clear hb
      refine hK _ _ (fun _ => unhide HBX) ?_
      clear hK K
      simp only [Act.put, List.setIfInBounds_toArray, List.set_cons_zero, List.set_cons_succ]
      refine wpAnyL_one (i := 9) (by kernel_rfl) rfl (by rfl) fun K hK => ?_
      refine wp_val (.bool false) (by go_simp) (some 25) (by rfl) ?_
      refine hK _ _ (fun _ => unhide HBX) ?_
      clear hK K
      simp only [Act.put, List.setIfInBounds_toArray, List.set_cons_zero, List.set_cons_succ]
      refine wpAnyL_done (by kernel_rfl) ?_ _
      go_wp2
      go_roundw
      case rel => exact ⟨k + 1, by omega, by go_num, unhide HBX⟩
      case measure => simp [intOf]; omega
    · obtain rfl : k = 70 := by omega
      go_wp2_with (first
        | (go_at_call 37; refine (unhide HQS _ (unhide HI)).mono ?_; rintro e W1 ⟨rfl, hb⟩; have HB := hide ((unhide HI).trans (hb.mono (unhide HI).size)); clear hb)
        | fail)
      go_ret
      exact ⟨rfl, unhide HB⟩
end Go.Proofs.Ytbahlfpcbplofaa.S
