/- Nodes: a place by halves. -/
import Derived.Test.YtppmpomfihalfaaNj
namespace Go.Proofs.Ytppmpomfihalfaa
open Go.RowKit

/-- a call of a function value -/
theorem wpList_call_value {P : Program} {ops : Array Oper} {rest : List Oper} {o : Oper} {a : Act} {w : World} {Q : Exit → Act → World → Prop} (hg : o.guard = none) (f x : Operand) (ats : Array TypeId) (ho : o.op = .call { callee := .value f, args := #[x], argTypes := ats })
    (F : FuncId) (caps : Array Value) (hf : a.eval f = .func (.func F) #[] caps) (xv : Value) (hx : a.eval x = xv) (hent : ∀ args (w : World), (callFunc F args).run P w = .ok (.enter F args) w) (d : Option Tmp) (hd : o.dst = d) (v : Value) (R : World → Prop)
    (hc : Calls P F (#[xv] ++ caps) w fun e w' => e = .returned v ∧ R w') (h : ∀ w', R w' → wpList P ops Q rest (a.put d v) w') : wpList P ops Q (o :: rest) a w := by
  subst hd
  refine wpList_plain hg fun K hK => ?_
  have hrun : (execOp a.eval o).run P w = .ok (.enter F (#[xv] ++ caps)) w := by
    unfold execOp
    simp only [ho, resolve, Deferred.ofValue, hf, invoke, Sem.run_bind, Sem.run_pure, Result.andThen_ok, List.map_toArray, List.map_cons, List.map_nil, hx]
    exact hent _ _
  unfold Oper.wp
  rw [hrun]
  refine hc.mono ?_
  rintro e w' ⟨rfl, hR⟩
  exact hK _ _ (h w' hR)
set_option maxRecDepth 100000 in
set_option maxHeartbeats 2000000 in
/-- sort.Search, of a closure that only draws: the place from which on it says yes -/
theorem nSearch (F : Nat) (cb : Array Value) (n : Nat) (p : Nat → Bool) (w : World) (eg : ∀ args (w : World), (callFunc F args).run Try.prog w = .ok (.enter F args) w) (hn : n ≤ 140737488355328)
    (hf : ∀ m i, i < n → Calls Try.prog F (#[.int .i64 (i : Int)] ++ cb) (w.drewN m) fun e w' => e = .returned (.bool (p i)) ∧ ∃ q, w' = w.drewN q)
    (t : Nat) (ht : t ≤ n) (h1 : ∀ i, i < t → p i = false) (h2 : ∀ i, t ≤ i → i < n → p i = true) :
    Calls Try.prog 84 #[.int .i64 (n : Int), .func (.func F) #[] cb] w fun e w' => e = .returned (.int .i64 (t : Int)) ∧ ∃ q, w' = w.drewN q := by
  have HF := hide hf
  have H1 := hide h1
  have H2 := hide h2
  have HE := hide eg
  have hni : (n : Int) ≤ 140737488355328 := by omega
  clear hf h1 h2 eg
  go_enter Try.func84, Try.ntmps84
  go_wp2
  go_loopw [5, 6] (fun s5 s6 wr => ∃ (lo hi q : Nat), s5 = .int .i64 lo ∧ s6 = .int .i64 hi ∧ lo ≤ t ∧ t ≤ hi ∧ hi ≤ n ∧ wr = w.drewN q) (fun a b _ => (intOf b).toNat - (intOf a).toNat)
  case atStart => exact ⟨0, n, 0, rfl, rfl, Nat.zero_le _, ht, Nat.le_refl _, rfl⟩
  case round =>
    obtain ⟨lo, hi, q, rfl, rfl, hlt, hth, hin, rfl⟩ := hrel
    by_cases hlh : lo < hi
    · have hlhi : (lo : Int) < (hi : Int) := by omega
      obtain ⟨m, hm⟩ : ∃ m, m = (lo + hi) / 2 := ⟨_, rfl⟩
      have hmi : ((lo : Int) + (hi : Int)) / 2 = (m : Int) := by omega
      have hlii : (lo : Int) + (hi : Int) ≤ 281474976710656 := by omega
      have HC := hide (unhide HF q m (by omega))
      have hmn : m < hi := by omega
      have hlm : lo ≤ m := by omega
      have hmb : (m : Int) ≤ 140737488355328 := by omega
      clear hm
      cases hp : p m
      · rw [hp] at HC
        have htm : m + 1 ≤ t := by
          rcases Nat.lt_or_ge m t with h | h
          · exact h
          · have := unhide H2 m h (by omega); rw [hp] at this; cases this
        clear hp
        go_wp2_with (first
          | (with_reducible refine wpList_call_value (by rfl) (.tmp 18) (.tmp 19) _ (by rfl) F cb (by with_unfolding_all rfl) (.int .i64 (m : Int)) (by with_unfolding_all rfl) (unhide HE) (some 20) (by rfl) (.bool false) _ (unhide HC) ?_; rintro w' ⟨q', rfl⟩; simp only [Act.put, List.setIfInBounds_toArray, List.set_cons_zero, List.set_cons_succ])
          | fail)
        exact ⟨⟨m + 1, hi, q', by go_num, rfl, htm, hth, hin, rfl⟩, by simp [intOf]; omega⟩
      · rw [hp] at HC
        have htm : t ≤ m := by
          rcases Nat.lt_or_ge m t with h | h
          · have := unhide H1 m h; rw [hp] at this; cases this
          · exact h
        clear hp
        go_wp2_with (first
          | (with_reducible refine wpList_call_value (by rfl) (.tmp 18) (.tmp 19) _ (by rfl) F cb (by with_unfolding_all rfl) (.int .i64 (m : Int)) (by with_unfolding_all rfl) (unhide HE) (some 20) (by rfl) (.bool true) _ (unhide HC) ?_; rintro w' ⟨q', rfl⟩; simp only [Act.put, List.setIfInBounds_toArray, List.set_cons_zero, List.set_cons_succ])
          | fail)
        exact ⟨⟨lo, m, q', rfl, rfl, hlt, htm, by omega, rfl⟩, by simp [intOf]; omega⟩
    · obtain rfl : lo = t := by omega
      obtain rfl : hi = lo := by omega
      have hlhi : ¬ (hi : Int) < (hi : Int) := by omega
      go_wp2
      go_ret
      exact ⟨rfl, q, rfl⟩
/-- how many of the first cells have a key below -/
def plc (cs : List Cl) (key : ByteArray) : Nat := (cs.takeWhile (fun c => lt c.key key)).length
theorem takeWhile_lt {α : Type} (p : α → Bool) : ∀ (l : List α) (i : Nat) (_ : i < (l.takeWhile p).length) (h2 : i < l.length), p l[i] = true
  | [], i, h, _ => by simp at h
  | a :: l, i, h, h2 => by
    cases hp : p a
    · simp [List.takeWhile, hp] at h
    · simp [List.takeWhile, hp] at h
      cases i with
      | zero => exact hp
      | succ i => exact takeWhile_lt p l i (by omega) (by simpa using h2)
theorem takeWhile_at {α : Type} (p : α → Bool) : ∀ (l : List α) (h2 : (l.takeWhile p).length < l.length), p l[(l.takeWhile p).length] = false
  | [], h => by simp at h
  | a :: l, h => by
    cases hp : p a
    · simp [List.takeWhile, hp]
    · simp [List.takeWhile, hp] at h ⊢
      exact takeWhile_at p l h
theorem takeWhile_len {α : Type} (p : α → Bool) (l : List α) : (l.takeWhile p).length ≤ l.length := (List.takeWhile_sublist p).length_le
/-- in a rising list a later key is above -/
theorem rises_lt {l : List ByteArray} (h : rises l) : ∀ (d i : Nat) (hj : i + 1 + d < l.length), lt l[i] l[i + 1 + d] = true
  | 0, i, hj => h i hj hj
  | d + 1, i, hj => lt_trans (rises_lt h d i (by omega)) (h (i + 1 + d) hj hj)
theorem rises_lt' {l : List ByteArray} (h : rises l) {i j : Nat} (hij : i < j) (hj : j < l.length) : lt (l[i]'(by omega)) l[j] = true := by
  obtain ⟨d, rfl⟩ : ∃ d, j = i + 1 + d := ⟨j - (i + 1), by omega⟩
  exact rises_lt h d i hj
theorem plc_le (cs : List Cl) (key : ByteArray) : plc cs key ≤ cs.length := takeWhile_len _ _
theorem plc_below {cs : List Cl} {key : ByteArray} {i : Nat} (h : i < plc cs key) (h2 : i < cs.length) : lt cs[i].key key = true := takeWhile_lt _ cs i h h2
theorem plc_above {cs : List Cl} {key : ByteArray} (hu : rises (cs.map Cl.key)) {i : Nat} (h : plc cs key ≤ i) (h2 : i < cs.length) : lt cs[i].key key = false := by
  have h3 := takeWhile_at (fun c : Cl => lt c.key key) cs (Nat.lt_of_le_of_lt h h2)
  rcases Nat.lt_or_ge (plc cs key) i with h4 | h4
  · have h5 := rises_lt' hu h4 (by rw [List.length_map]; exact h2)
    simp only [List.getElem_map] at h5
    cases h6 : lt cs[i].key key
    · rfl
    · have := lt_trans h5 h6
      rw [show lt (cs[plc cs key]'(by omega)).key key = false from h3] at this
      cases this
  · obtain rfl : i = plc cs key := by omega
    exact h3
theorem ent_lit {P : Program} (F : FuncId) (h : (P.funcs[F]?).map (fun fn => (fn.name == "runtime.NumGoroutine", fn.body.isNone)) = some (false, false)) (args : Array Value) (w : World) : (callFunc F args).run P w = .ok (.enter F args) w := by
  cases hq : P.funcs[F]? with
  | none => simp [hq] at h
  | some fn =>
    simp only [hq, Option.map_some, Option.some.injEq, Prod.mk.injEq] at h
    have h1 : fn.name ≠ "runtime.NumGoroutine" := by simpa using h.1
    cases hb : fn.body with
    | none => simp [hb] at h
    | some c => simp [callFunc, hq, h1, hb]
theorem ent_cp : ∀ args (w : World), (callFunc 122 args).run Try.prog w = .ok (.enter 122 args) w := ent_lit _ (by kernel_rfl)
set_option maxRecDepth 100000 in
theorem nPlace1 (cs : List Cl) (key : ByteArray) (ca : Option Addr) (cn cc : Nat) (hcn : cn = cs.length) (i : Nat) (hi : i < cs.length) (X Y : Nat) (W : World) (hX : W.cell? ⟨X, 0, none⟩ = some (.slice ca cn cc)) (hY : W.cell? ⟨Y, 0, none⟩ = some (.string key)) (hl : Lies W ca (flatC cs)) :
    Calls Try.prog 122 (#[.int .i64 (i : Int)] ++ #[.pointer (some ⟨X, 0, none⟩), .pointer (some ⟨Y, 0, none⟩)]) W fun e w' => e = .returned (.bool (!lt cs[i].key key)) ∧ ∃ q, w' = W.drewN q := by
  obtain ⟨g, o, hao, hc, hv⟩ := hl.cl hi
  subst hao
  have hix := ixCells g o cn cc i (by omega)
  clear hl hv
  unfold lt
  generalize cs[i].key = q at *
  generalize o + i * 2 = j at *
  clear hi hcn
  cases hb : Op.bytesLess q.toList key.toList
  all_goals
    show Calls Try.prog 122 #[.int .i64 (i : Int), .pointer (some ⟨X, 0, none⟩), .pointer (some ⟨Y, 0, none⟩)] W _
    go_enter Try.func122, Try.ntmps122
    go_wp2_with fail
    go_quiet (fail)
    go_wp2
    go_ret
    exact ⟨rfl, _, rfl⟩
theorem wpList_box_one {ops : Array Oper} {rest : List Oper} {o : Oper} {a : Act} {w : World} {Q : Exit → Act → World → Prop} (hg : o.guard = none) (t : TypeId) (x : Operand) (ho : o.op = .box t x) (d : Option Tmp) (hd : o.dst = d) (N : Nat) (hN : N = w.heap.size) (v : Value) (hx : a.eval x = v) (hv : v.cells = #[v])
    (h : ∀ w', Hid (w'.heap[N]? = some (.cells #[v] t (0, 0))) → Hid (Below N w w') → Hid (w'.heap.size = N + 1) → wpList Try.prog ops Q rest (a.put d (.pointer (some ⟨N, 0, none⟩))) w') : wpList Try.prog ops Q (o :: rest) a w :=
  wpList_box_row hg _ x ho d hd N hN.symm _ (by rw [hx]; exact hv) h
theorem box1 {W : World} {N : Nat} {c0 : Value} {t : TypeId} (h : W.heap[N]? = some (.cells #[c0] t (0, 0))) : W.cell? ⟨N, 0, none⟩ = some c0 := by simp [World.cell?, h]
open Classical in
set_option maxRecDepth 100000 in
set_option maxHeartbeats 2000000 in
theorem nPlace (cs : List Cl) (key : ByteArray) (ca : Option Addr) (cc : Nat) (u : World) (hl : Lies u ca (flatC cs)) (hn : cs.length ≤ 140737488355328) (hu : rises (cs.map Cl.key)) :
    Calls Try.prog 83 #[.slice ca cs.length cc, .string key] u fun e u' => e = .returned (.tuple #[.int .i64 (plc cs key : Int), .bool (decide (∃ h : plc cs key < cs.length, cs[plc cs key].key = key))]) ∧ Below u.heap.size u u' := by
  obtain ⟨N, hN⟩ : ∃ N, N = u.heap.size := ⟨_, rfl⟩
  have HN := hide hN
  rw [← hN]
  obtain ⟨cn, hcn⟩ : ∃ cn, cn = cs.length := ⟨_, rfl⟩
  have HCN := hide hcn
  have HL := hide hl
  obtain ⟨t, ht⟩ : ∃ t, t = plc cs key := ⟨_, rfl⟩
  have htl : t ≤ cn := by rw [ht, hcn]; exact plc_le _ _
  obtain ⟨r, hr⟩ : ∃ r, r = decide (∃ h : plc cs key < cs.length, cs[plc cs key].key = key) := ⟨_, rfl⟩
  rw [← hr, ← ht, ← hcn]
  replace hr : r = true ↔ ∃ h : t < cs.length, cs[t].key = key := by rw [hr, ht]; exact decide_eq_true_iff
  have HR := hide hr
  have HS : Hid (∀ (W : World) (X Y : Nat), W.cell? ⟨X, 0, none⟩ = some (.slice ca cn cc) → W.cell? ⟨Y, 0, none⟩ = some (.string key) → Lies W ca (flatC cs) → Calls Try.prog 84 #[.int .i64 (cn : Int), .func (.func 122) #[] #[.pointer (some ⟨X, 0, none⟩), .pointer (some ⟨Y, 0, none⟩)]] W fun e w' => e = .returned (.int .i64 (t : Int)) ∧ ∃ q, w' = W.drewN q) := fun W X Y hX hY hl => by
    refine nSearch _ _ cn (fun i => !lt (cs.getD i ⟨⟨#[]⟩, ⟨#[]⟩⟩).key key) W ent_cp (by omega) (fun m i hi => ?_) t htl (fun i hi => ?_) (fun i h1 h2 => ?_)
    · have hil : i < cs.length := by omega
      have h1 := nPlace1 cs key ca cn cc hcn i hil X Y (W.drewN m) (by simpa using hX) (by simpa using hY) (hl.below (belowDrewN (Below.refl _ _) m))
      have e : (cs.getD i ⟨⟨#[]⟩, ⟨#[]⟩⟩) = cs[i] := by rw [List.getD_eq_getElem?_getD, List.getElem?_eq_getElem hil]; rfl
      rw [e]
      refine h1.mono ?_
      rintro e w' ⟨he, q, rfl⟩
      exact ⟨he, m + q, by rw [World.drewN_drewN]⟩
    · have hil : i < cs.length := by omega
      have e : (cs.getD i ⟨⟨#[]⟩, ⟨#[]⟩⟩) = cs[i] := by rw [List.getD_eq_getElem?_getD, List.getElem?_eq_getElem hil]; rfl
      rw [e, plc_below (by rw [← ht]; exact hi) hil]
      rfl
    · have hil : i < cs.length := by omega
      have e : (cs.getD i ⟨⟨#[]⟩, ⟨#[]⟩⟩) = cs[i] := by rw [List.getD_eq_getElem?_getD, List.getElem?_eq_getElem hil]; rfl
      rw [e, plc_above hu (by rw [← ht]; exact h1) hil]
      rfl
  have hni : (cn : Int) ≤ 140737488355328 := by omega
  clear hl hu ht hr hcn hN hn
  go_enter Try.func83, Try.ntmps83
  go_wp2_with (first
    | (with_reducible refine wpList_box_one (by rfl) 22 (.tmp 0) (by rfl) (some 2) (by rfl) N (unhide HN) (.slice ca cn cc) (by with_unfolding_all rfl) (by with_unfolding_all rfl) ?_; intro W1 HX1 HW1 HS1; simp only [Act.put, List.setIfInBounds_toArray, List.set_cons_zero, List.set_cons_succ])
    | (with_reducible refine wpList_box_one (by rfl) 9 (.tmp 1) (by rfl) (some 3) (by rfl) (N + 1) (unhide HS1).symm (.string key) (by with_unfolding_all rfl) (by with_unfolding_all rfl) ?_; intro W2 HX2 HW2 HS2; simp only [Act.put, List.setIfInBounds_toArray, List.set_cons_zero, List.set_cons_succ]; have z0 := box1 ((((unhide HW2).block N (Nat.lt_succ_self N)).trans (unhide HX1))); have z1 := box1 (unhide HX2))
    | fail)
  have HB2 : Hid (Below N u W2) := (unhide HW1).trans ((unhide HW2).mono (Nat.le_succ N))
  have HL2 : Hid (Lies W2 ca (flatC cs)) := (unhide HL).below (by rw [← unhide HN]; exact unhide HB2)
  refine (unhide HS W2 N (N + 1) z0 z1 (unhide HL2)).mono ?_
  rintro e W3 ⟨rfl, q3, rfl⟩
  clear HX1 HX2 HW1 HW2 HS1 HS2 HS
  by_cases htn : t < cn
  · have htni : (t : Int) < (cn : Int) := by omega
    have hdt : decide ((t : Int) < (cn : Int)) = true := decide_eq_true htni
    have htl2 : t < cs.length := by rw [← unhide HCN]; exact htn
    obtain ⟨g, o, hao, hc, hv⟩ := (unhide HL2).cl htl2
    subst hao
    have hix := ixCells g o cn cc t htn
    have HR2 : Hid (r = true ↔ cs[t].key = key) := ⟨fun h => ((unhide HR).1 h).2, fun h => (unhide HR).2 ⟨htl2, h⟩⟩
    clear hv HR
    generalize cs[t].key = q at *
    clear htl2
    by_cases hq : q = key
    · obtain rfl : r = true := (unhide HR2).2 hq
      have hqb : (q.toList == key.toList) = true := by rw [hq]; simp
      clear HR2 hq
      go_wp2_with fail
      go_quiet (fail)
      go_wp2
      go_ret2
      exact ⟨rfl, belowDrewN (belowDrewN (unhide HB2) _) _⟩
    · obtain rfl : r = false := Bool.eq_false_iff.2 (fun h => hq ((unhide HR2).1 h))
      have hqb : (q.toList == key.toList) = false := by
        rw [Bool.eq_false_iff]
        intro h
        exact hq (ba_list (by simpa using h))
      clear HR2 hq
      go_wp2_with fail
      go_quiet (fail)
      go_wp2
      go_ret2
      exact ⟨rfl, belowDrewN (belowDrewN (unhide HB2) _) _⟩
  · have htni : ¬ (t : Int) < (cn : Int) := by omega
    have hdt : decide ((t : Int) < (cn : Int)) = false := decide_eq_false htni
    obtain rfl : r = false := Bool.eq_false_iff.2 (fun h => htn (by rw [unhide HCN]; exact ((unhide HR).1 h).1))
    go_wp2_with fail
    go_quiet (fail)
    go_wp2
    go_ret2
    exact ⟨rfl, belowDrewN (belowDrewN (unhide HB2) _) _⟩
end Go.Proofs.Ytppmpomfihalfaa
