/- Segments: Piece of the program. Written by mksgu.py. -/
import Derived.Test.YtbahlfpcbplofaaSgt
namespace Go.Proofs.Ytbahlfpcbplofaa.S
open Go.RowKit Go.Lib
/-- a call of a function value -/
theorem wpList_call_value {P : Program} {ops : Array Oper} {rest : List Oper} {o : Oper} {a : Act} {w : World} {Q : Exit → Act → World → Prop} (hg : o.guard = none) (f x : Operand) (ats : Array TypeId) (ho : o.op = .call { callee := .value f, args := #[x], argTypes := ats })
    (F : FuncId) (caps : Array Value) (hf : a.eval f = .func (.func F) #[] caps) (xv : Value) (hx : a.eval x = xv) (hent : ∀ args (w : World), (callFunc F args).run P w = .ok (.enter F args) w) (d : Option Tmp) (hd : o.dst = d) (v : Value) (R : World → Prop)
    (hc : Calls P F (#[xv] ++ caps) w fun e w' => e = .returned v ∧ R w') (h : ∀ w', R w' → wpList P ops Q rest (a.put d v) w') : wpList P ops Q (o :: rest) a w := by
  subst hd
  refine wpList_plain hg fun K hK => ?_
  have hrun : (execOp a.eval o).run P w = .ok (.enter F (#[xv] ++ caps)) w := by
    unfold execOp
    simp only [ho, resolve, Deferred.ofValue, hf, invoke, Sem.run_bind, Sem.run_pure, Result.andThen_ok, List.map_toArray, List.map_cons, List.map_nil, hx]
    exact hent _ _
  unfold Oper.wp
  rw [hrun]
  refine hc.mono ?_
  rintro e w' ⟨rfl, hR⟩
  exact hK _ _ (h w' hR)
set_option maxRecDepth 100000 in
set_option maxHeartbeats 2000000 in
/-- sort.Search, of a closure that only draws: the place from which on it says yes -/
theorem sSearch (F : Nat) (cb : Array Value) (n : Nat) (p : Nat → Bool) (w : World) (eg : ∀ args (w : World), (callFunc F args).run Try.prog w = .ok (.enter F args) w) (hn : n ≤ 140737488355328)
    (hf : ∀ m i, i < n → Calls Try.prog F (#[.int .i64 (i : Int)] ++ cb) (w.drewN m) fun e w' => e = .returned (.bool (p i)) ∧ ∃ q, w' = w.drewN q)
    (t : Nat) (ht : t ≤ n) (h1 : ∀ i, i < t → p i = false) (h2 : ∀ i, t ≤ i → i < n → p i = true) :
    Calls Try.prog 79 #[.int .i64 (n : Int), .func (.func F) #[] cb] w fun e w' => e = .returned (.int .i64 (t : Int)) ∧ ∃ q, w' = w.drewN q := by
  have HF := hide hf
  have H1 := hide h1
  have H2 := hide h2
  have HE := hide eg
  have hni : (n : Int) ≤ 140737488355328 := by omega
  clear hf h1 h2 eg
  go_enter Try.func79, Try.ntmps79
  go_wp2
  go_loopw [5, 6] (fun s5 s6 wr => ∃ (lo hi q : Nat), s5 = .int .i64 lo ∧ s6 = .int .i64 hi ∧ lo ≤ t ∧ t ≤ hi ∧ hi ≤ n ∧ wr = w.drewN q) (fun a b _ => (intOf b).toNat - (intOf a).toNat)
  case atStart => exact ⟨0, n, 0, rfl, rfl, Nat.zero_le _, ht, Nat.le_refl _, rfl⟩
  case round =>
    obtain ⟨lo, hi, q, rfl, rfl, hlt, hth, hin, rfl⟩ := hrel
    by_cases hlh : lo < hi
    · have hlhi : (lo : Int) < (hi : Int) := by omega
      obtain ⟨m, hm⟩ : ∃ m, m = (lo + hi) / 2 := ⟨_, rfl⟩
      have hmi : ((lo : Int) + (hi : Int)) / 2 = (m : Int) := by omega
      have hlii : (lo : Int) + (hi : Int) ≤ 281474976710656 := by omega
      have HC := hide (unhide HF q m (by omega))
      have hmn : m < hi := by omega
      have hlm : lo ≤ m := by omega
      have hmb : (m : Int) ≤ 140737488355328 := by omega
      clear hm
      cases hp : p m
      · rw [hp] at HC
        have htm : m + 1 ≤ t := by
          rcases Nat.lt_or_ge m t with h | h
          · exact h
          · have := unhide H2 m h (by omega); rw [hp] at this; cases this
        clear hp
        go_wp2_with (first
          | (with_reducible refine wpList_call_value (by rfl) (.tmp 18) (.tmp 19) _ (by rfl) F cb (by with_unfolding_all rfl) (.int .i64 (m : Int)) (by with_unfolding_all rfl) (unhide HE) (some 20) (by rfl) (.bool false) _ (unhide HC) ?_; rintro w' ⟨q', rfl⟩; simp only [Act.put, List.setIfInBounds_toArray, List.set_cons_zero, List.set_cons_succ])
          | fail)
        exact ⟨⟨m + 1, hi, q', by go_num, rfl, htm, hth, hin, rfl⟩, by simp [intOf]; omega⟩
      · rw [hp] at HC
        have htm : t ≤ m := by
          rcases Nat.lt_or_ge m t with h | h
          · have := unhide H1 m h; rw [hp] at this; cases this
          · exact h
        clear hp
        go_wp2_with (first
          | (with_reducible refine wpList_call_value (by rfl) (.tmp 18) (.tmp 19) _ (by rfl) F cb (by with_unfolding_all rfl) (.int .i64 (m : Int)) (by with_unfolding_all rfl) (unhide HE) (some 20) (by rfl) (.bool true) _ (unhide HC) ?_; rintro w' ⟨q', rfl⟩; simp only [Act.put, List.setIfInBounds_toArray, List.set_cons_zero, List.set_cons_succ])
          | fail)
        exact ⟨⟨lo, m, q', rfl, rfl, hlt, htm, by omega, rfl⟩, by simp [intOf]; omega⟩
    · obtain rfl : lo = t := by omega
      obtain rfl : hi = lo := by omega
      have hlhi : ¬ (hi : Int) < (hi : Int) := by omega
      go_wp2
      go_ret
      exact ⟨rfl, q, rfl⟩
theorem takeWhile_lt {α : Type} (p : α → Bool) : ∀ (l : List α) (i : Nat) (_ : i < (l.takeWhile p).length) (h2 : i < l.length), p l[i] = true
  | [], i, h, _ => by simp at h
  | a :: l, i, h, h2 => by
    cases hp : p a
    · simp [List.takeWhile, hp] at h
    · simp [List.takeWhile, hp] at h
      cases i with
      | zero => exact hp
      | succ i => exact takeWhile_lt p l i (by omega) (by simpa using h2)
theorem takeWhile_at {α : Type} (p : α → Bool) : ∀ (l : List α) (h2 : (l.takeWhile p).length < l.length), p l[(l.takeWhile p).length] = false
  | [], h => by simp at h
  | a :: l, h => by
    cases hp : p a
    · simp [List.takeWhile, hp]
    · simp [List.takeWhile, hp] at h ⊢
      exact takeWhile_at p l h
theorem takeWhile_len {α : Type} (p : α → Bool) (l : List α) : (l.takeWhile p).length ≤ l.length := (List.takeWhile_sublist p).length_le
/- lists rise -/
theorem Ok.rise {l : List En} {wd : Int} (h : Ok l wd) : ∀ (d i : Nat) (hj : i + 1 + d < l.length), lt l[i].1 l[i + 1 + d].1 = true
  | 0, i, hj => by
    have := (h.2 (i + 1) hj).2.2 (Nat.succ_pos _)
    simpa using this
  | d + 1, i, hj => lt_trans (Ok.rise h d i (by omega)) (by have := (h.2 (i + 1 + (d + 1)) hj).2.2 (by omega); simpa using this)
theorem Ok.rise' {l : List En} {wd : Int} (h : Ok l wd) {i j : Nat} (hij : i < j) (hj : j < l.length) : lt (l[i]'(by omega)).1 l[j].1 = true := by
  obtain ⟨d, rfl⟩ : ∃ d, j = i + 1 + d := ⟨j - (i + 1), by omega⟩
  exact h.rise d i hj
/-- how many of the first entries lie below -/
def plc (l : List En) (k : ByteArray) : Nat := (l.takeWhile (fun e => lt e.1 k)).length
theorem plc_le (l : List En) (k : ByteArray) : plc l k ≤ l.length := takeWhile_len _ _
theorem plc_below {l : List En} {k : ByteArray} {i : Nat} (h : i < plc l k) (h2 : i < l.length) : lt l[i].1 k = true := takeWhile_lt _ l i h h2
theorem plc_above {l : List En} {wd : Int} (ho : Ok l wd) {k : ByteArray} {i : Nat} (h : plc l k ≤ i) (h2 : i < l.length) : lt l[i].1 k = false := by
  have h3 := takeWhile_at (fun e : En => lt e.1 k) l (Nat.lt_of_le_of_lt h h2)
  rcases Nat.lt_or_ge (plc l k) i with h4 | h4
  · have h5 := ho.rise' h4 h2
    cases h6 : lt l[i].1 k
    · rfl
    · have := lt_trans h5 h6
      rw [show lt (l[plc l k]'(by omega)).1 k = false from h3] at this
      cases this
  · obtain rfl : i = plc l k := by omega
    exact h3
/-- the place is this, if those ahead lie below and those behind do not -/
theorem plc_eq {l : List En} {wd : Int} (ho : Ok l wd) {k : ByteArray} {t : Nat} (ht : t ≤ l.length) (h1 : ∀ i (hi : i < l.length), i < t → lt l[i].1 k = true) (h2 : ∀ i (hi : i < l.length), t ≤ i → lt l[i].1 k = false) : plc l k = t := by
  rcases Nat.lt_trichotomy (plc l k) t with h | h | h
  · have h3 := h1 (plc l k) (by omega) h
    have h4 := plc_above ho (Nat.le_refl (plc l k)) (by omega)
    rw [h3] at h4; cases h4
  · exact h
  · have hl := plc_le l k
    have h3 := h2 t (by omega) (Nat.le_refl _)
    have h4 := plc_below h (by omega)
    rw [h4] at h3; cases h3
noncomputable def pieV (l : List En) (k : ByteArray) : List En × Bool := if liB l = true then ((l.drop (plc l k)).take 64, decide (64 < (l.drop (plc l k)).length)) else ([], false)
theorem li_ok {l : List En} (h : liB l = true) : l = [] ∨ ∃ wd, Ok l wd := by
  cases l with
  | nil => exact .inl rfl
  | cons e l => exact .inr ⟨_, okB_true.1 h⟩
theorem entSS : ∀ args (w : World), (callFunc 79 args).run Try.prog w = .ok (.enter 79 args) w := by
  intro args w
  go_simp
/- the closure -/
set_option maxRecDepth 100000 in
set_option maxHeartbeats 1000000 in
theorem pClo (l : List En) (ao : Option Addr) (n c bl bf : Nat) (k : ByteArray) (w : World) (h : El w l ao n c) (hl : w.heap[bl]? = some (.cells #[.slice ao n c] 27 (0, 0))) (hf : w.heap[bf]? = some (.cells #[.string k] 9 (0, 0))) (i : Nat) (hi : i < n) (p : Bool) (hp : p = !lt (l[i]'(by rw [← h.hn]; exact hi)).1 k) (m : Nat) : Calls Try.prog 80 (#[.int .i64 (i : Int)] ++ #[.pointer (some ⟨bl, 0, none⟩), .pointer (some ⟨bf, 0, none⟩)]) (w.drewN m) fun e w' => e = .returned (.bool p) ∧ ∃ q, w' = w.drewN q := by
  show Calls Try.prog 80 #[.int .i64 (i : Int), .pointer (some ⟨bl, 0, none⟩), .pointer (some ⟨bf, 0, none⟩)] (w.drewN m) _
  have hil : i < l.length := by rw [← h.hn]; exact hi
  obtain ⟨g, o, hao, c1, -⟩ := h.en hil
  subst hao
  have hix := ixE g o n c i hi
  have e1 := cell_one hl
  have e2 := cell_one hf
  unfold lt at hp
  generalize l[i] = x at *
  obtain ⟨xk, xs⟩ := x
  have c1 : w.cell? ⟨g, o + i * 2, none⟩ = some (.string xk) := c1
  have hp : p = !Op.bytesLess xk.toList k.toList := hp
  generalize o + i * 2 = oo at *
  clear h hl hf
  cases hb : Op.bytesLess xk.toList k.toList
  · rw [hb] at hp
    subst hp
    go_enter Try.func80, Try.ntmps80
    go_wp2_with fail
    go_quiet (fail)
    go_wp2
    go_ret
    exact ⟨by show Ending.returned (Value.bool (!Op.bytesLess xk.toList k.toList)) = _; rw [hb], _, World.drewN_drewN ..⟩
  · rw [hb] at hp
    subst hp
    go_enter Try.func80, Try.ntmps80
    go_wp2_with fail
    go_quiet (fail)
    go_wp2
    go_ret
    exact ⟨by show Ending.returned (Value.bool (!Op.bytesLess xk.toList k.toList)) = _; rw [hb], _, World.drewN_drewN ..⟩
/- slices.Clone -/
set_option maxRecDepth 100000 in
theorem sClone (l : List En) (ao : Option Addr) (n c : Nat) (u : World) (h : El u l ao n c) : Calls Try.prog 81 #[.slice ao n c] u fun e u' => ∃ xo cc, e = .returned (.slice xo n cc) ∧ RE.Own u' u.heap.size l xo cc ∧ Below u.heap.size u u' := by
  cases ao with
  | none =>
    have hc := h.nil rfl
    subst hc
    have hn0 : n = 0 := by have := h.cap; have := h.hn; omega
    subst hn0
    have hl : l = [] := List.eq_nil_of_length_eq_zero h.hn.symm
    subst hl
    clear h
    have hq : ∀ W : World, (binOp .eql 27 (.slice none 0 0) (.slice none 0 0)).run Try.prog W = .ok (.bool true) W := fun W => by kernel_rfl
    go_enter Try.func81, Try.ntmps81
    go_wp2
    go_ret
    exact ⟨none, 0, rfl, Rec.Own.none _ _, Below.refl _ _⟩
  | some ad =>
    have HH := hide h
    have HN := hide h.hn
    have HR : Hid (Below u.heap.size u u) := Below.refl _ _
    have hq : ∀ W : World, (binOp .eql 27 (.slice (some ad) n c) (.slice none 0 0)).run Try.prog W = .ok (.bool false) W := fun W => by kernel_rfl
    clear h
    go_enter Try.func81, Try.ntmps81
    go_wp2_with (first
      | (at_builtin; (with_reducible refine wpList_putE (by rfl) (.tmp 5) (.tmp 6) (by rfl) (some 7) (by rfl) u.heap.size [] l 0 n rfl (unhide HN) (some ⟨u.heap.size, 0, none⟩) (some ad) 0 c (by with_unfolding_all rfl) (by with_unfolding_all rfl) (Own.empty u _ (Nat.le_refl _)) (atNew (unhide HH) (unhide HR) _) (unhide HH).l0 (szNew u _) ?_); intro x4 n4 c4 W4 HP4; simp only [Act.put, List.setIfInBounds_toArray, List.set_cons_zero, List.set_cons_succ]; have hn4 : n = n4 := ((unhide HP4).len.trans (unhide HN).symm).symm; subst hn4)
      | fail)
    go_ret
    exact ⟨x4, c4, rfl, (unhide HP4).own, (unhide HP4).below0⟩
theorem pieceCut {w : World} {l : List En} {ao : Option Addr} {n c : Nat} (h : El w l ao n c) (i : Nat) (hi : i ≤ n) : El w (l.take i) ao i c := by
  have hsp : RE.flat l = RE.flat (l.take i) ++ RE.flat (l.drop i) := by rw [← RE.flat_app, List.take_append_drop]
  have h1 := h.lies
  rw [hsp] at h1
  exact ⟨⟨h1.pre, by rw [List.length_take]; have := h.cap; omega, h.nil, by rw [List.length_take]; have := h.many; omega⟩, by rw [List.length_take, Nat.min_eq_left (by rw [← h.hn]; exact hi)]⟩
theorem runCut {w : World} {l : List En} {ao : Option Addr} {n c : Nat} (h : El w l ao n c) (i : Nat) (hi : i ≤ n) (W : World) : (Instr.slice 27 (.slice ao n c) none (some (.int .i64 (i : Int))) none).run Try.prog W = .ok (.slice ao i c) W := by
  have he : Try.prog.elem 27 = 43 := by kernel_rfl
  have hcap := h.cap
  have hn := h.hn
  rw [run_slice_h W 27 _ _ _ (by rw [he]; kernel_rfl) .i64 i (by omega) (by omega), he, sizeN (n := 2) (by kernel_rfl)]
  simp only [Result.andThen_ok, sliced, Int.toNat_natCast, Nat.sub_zero, Nat.zero_mul]
  split
  · rfl
  · cases ao with
    | none => rfl
    | some ad => simp [Addr.add]
set_option maxRecDepth 100000 in
set_option maxHeartbeats 4000000 in
theorem sPiece (l : List En) (ao : Option Addr) (n c : Nat) (k : ByteArray) (u : World) (h : El u l ao n c) (dl : List En) (r : Bool) (hv : pieV l k = (dl, r)) : Calls Try.prog 39 #[.slice ao n c, .string k] u fun e u' => ∃ xo m cc, e = .returned (.tuple #[.slice xo m cc, .bool r]) ∧ m = dl.length ∧ RE.Own u' u.heap.size dl xo cc ∧ Below u.heap.size u u' := by
  have hmix : Try.prog.follows .mixedOrders = true := by kernel_rfl
  have HH := hide h
  have hnf := h.few
  have hni : (n : Int) ≤ 4398046511000 := by omega
  have HRN := hide h.hn
  have HL1 := hide fun (G : World) (hG : Below u.heap.size u G) => sIsList l ao n c G (h.below hG)
  obtain ⟨bl, hbl⟩ : ∃ bl, bl = u.heap.size := ⟨_, rfl⟩
  have HBL := hide hbl
  unfold pieV at hv
  by_cases h1 : liB l = true
  · rw [h1] at HL1
    rw [if_pos h1] at hv
    obtain ⟨t, ht⟩ : ∃ t, t = plc l k := ⟨_, rfl⟩
    rw [← ht] at hv
    have htn : t ≤ n := by rw [ht, h.hn]; exact plc_le _ _
    have HP1 : Hid (∀ i (hi : i < n), i < t → (!lt (l[i]'(by rw [← h.hn]; exact hi)).1 k) = false) := fun i hi hit => by rw [plc_below (by rw [← ht]; exact hit) (by rw [← h.hn]; exact hi)]; rfl
    have HP2 : Hid (∀ i (hi : i < n), t ≤ i → (!lt (l[i]'(by rw [← h.hn]; exact hi)).1 k) = true) := fun i hi hit => by
      rcases li_ok h1 with h0 | ⟨wd, hok⟩
      · subst h0; have := h.hn; simp at this; omega
      · rw [plc_above hok (by rw [← ht]; exact hit) (by rw [← h.hn]; exact hi)]; rfl
    have HSE : Hid (∀ (W : World), Below u.heap.size u W ∧ W.heap[bl]? = some (.cells #[.slice ao n c] 27 (0, 0)) ∧ W.heap[bl + 1]? = some (.cells #[.string k] 9 (0, 0)) → Calls Try.prog 79 #[.int .i64 (n : Int), .func (.func 80) #[] #[.pointer (some ⟨bl, 0, none⟩), .pointer (some ⟨bl + 1, 0, none⟩)]] W fun e w' => e = .returned (.int .i64 (t : Int)) ∧ ∃ q, w' = W.drewN q) := fun W hW => by
      refine sSearch 80 _ n (fun i => if hi : i < n then !lt (l[i]'(by rw [← h.hn]; exact hi)).1 k else true) W (ent_lit _ (by kernel_rfl)) (by omega) (fun m i hi => pClo l ao n c bl (bl + 1) k W (h.below hW.1) hW.2.1 hW.2.2 i hi _ (by simp only [dif_pos hi]) m) t htn (fun i hit => ?_) (fun i hit hi => ?_)
      · have hi : i < n := by omega
        simp only [dif_pos hi]; exact unhide HP1 i hi hit
      · simp only [dif_pos hi]; exact unhide HP2 i hi hit
    have HTR : Hid (∀ W : World, (Instr.slice 27 (.slice ao n c) (some (.int .i64 (t : Int))) none none).run Try.prog W = .ok (.slice (tlA ao c t 2) (n - t) (c - t)) W) := fun W => h.tailRun t htn W
    have HEL : Hid (∀ W : World, Below u.heap.size u W → El W (l.drop t) (tlA ao c t 2) (n - t) (c - t)) := fun W hW => (h.below hW).tail t htn
    have hrl : (l.drop t).length = n - t := by rw [List.length_drop, ← h.hn]
    rw [hrl] at hv
    generalize l.drop t = r' at *
    obtain ⟨nr, hnr⟩ : ∃ nr, nr = n - t := ⟨_, rfl⟩
    rw [← hnr] at hv HTR HEL hrl
    have hnri : (nr : Int) ≤ 4398046511000 := by omega
    clear h h1 ht htn HP1 HP2 hnf
    generalize tlA ao c t 2 = ro at *
    generalize c - t = rc at *
    obtain ⟨mn, hmn⟩ : ∃ mn, mn = min nr 64 := ⟨_, rfl⟩
    have hmnr : mn ≤ nr := by omega
    have hmx : mn = min nr 64 := hmn
    have hmni : min (nr : Int) 64 = (mn : Int) := by omega
    have HEC : Hid (∀ W : World, Below u.heap.size u W → El W (r'.take mn) ro mn rc) := fun W hW => pieceCut (unhide HEL W hW) mn hmnr
    have HRC : Hid (∀ W : World, (Instr.slice 27 (.slice ro nr rc) none (some (.int .i64 (mn : Int))) none).run Try.prog W = .ok (.slice ro mn rc) W) := fun W => runCut (unhide HEL u (Below.refl _ _)) mn hmnr W
    have HTL : Hid (r'.take 64 = r'.take mn) := by
      rw [hmn, ← hrl]
      show _ = _
      rw [List.take_eq_take_iff]
      omega
    have hdl : dl = r'.take mn := by rw [← unhide HTL]; exact (Prod.mk.inj hv).1.symm
    have hr : r = decide (64 < nr) := (Prod.mk.inj hv).2.symm
    subst hdl
    have HML : Hid (mn = (r'.take mn).length) := by rw [List.length_take, hrl]; show _ = _; omega
    have hdb : decide ((mn : Int) < (nr : Int)) = r := by
      rw [hr, decide_eq_decide]; omega
    clear hv hr hmn hrl hnr hbl HEL
    have hrc := fun W => unhide HRC W
    go_enter Try.func39, Try.ntmps39
    go_wp2_with (first
      | ((with_reducible refine wpList_box_row (by rfl) 27 (.tmp 0) (by rfl) (some 2) (by rfl) bl (unhide HBL).symm #[.slice ao n c] (by with_unfolding_all rfl) ?_); intro W1 HX1 HB1 HS1; simp only [Act.put, List.setIfInBounds_toArray, List.set_cons_zero, List.set_cons_succ])
      | ((with_reducible refine wpList_box_row (by rfl) 9 (.tmp 1) (by rfl) (some 3) (by rfl) (bl + 1) (unhide HS1) #[.string k] (by with_unfolding_all rfl) ?_); intro W2 HX2 HB2 HS2; simp only [Act.put, List.setIfInBounds_toArray, List.set_cons_zero, List.set_cons_succ]; have HU2 : Hid (Below u.heap.size u W2) := (by rw [← unhide HBL]; exact (unhide HB1).trans ((unhide HB2).mono (Nat.le_succ _))); have HX1' : Hid (W2.heap[bl]? = some (.cells #[.slice ao n c] 27 (0, 0))) := ((unhide HB2).block bl (Nat.lt_succ_self _)).trans (unhide HX1); have c1 := cell_one (unhide HX1'))
      | (go_at_call 65; refine (unhide HL1 W2 (unhide HU2)).mono ?_; rintro e W3 ⟨rfl, hb⟩; have HU3 : Hid (Below u.heap.size u W3) := Below.step (unhide HU2) hb; have HX3 := hide (box_below (unhide HX1') hb); have HY3 := hide (box_below (unhide HX2) hb); clear hb c1)
      | fail)
    refine wp_region_last (fun G => G.heap[bl]? = some (.cells #[.slice ao n c] 27 (0, 0))) 6 hmix (unhide HX3) fun hS => ?_
    have HD0 : Below u.heap.size u W3.drew ∧ W3.drew.heap[bl]? = some (.cells #[.slice ao n c] 27 (0, 0)) ∧ W3.drew.heap[bl + 1]? = some (.cells #[.string k] 9 (0, 0)) := ⟨belowDrew (unhide HU3), unhide HX3, unhide HY3⟩
    generalize W3.drew = X0 at hS HD0 ⊢
    refine wpAnyL_take 0 11 (.slice ao n c) [] rfl rfl (by kernel_rfl) (by kernel_rfl) (by kernel_rfl) (by kernel_rfl) (by kernel_rfl) (fun _ _ _ h => h) (by rfl) (fun G hG => by have e0 := cell_one hG; go_simp) hS ?_
    simp only [Act.put, List.setIfInBounds_toArray, List.set_cons_zero, List.set_cons_succ]
    refine wpAnyL_take 1 12 (.slice ao n c) [] rfl rfl (by kernel_rfl) (by kernel_rfl) (by kernel_rfl) (by kernel_rfl) (by kernel_rfl) (fun _ _ _ h => h) (by rfl) (fun G hG => by have e0 := cell_one hG; go_simp) hS ?_
    simp only [Act.put, List.setIfInBounds_toArray, List.set_cons_zero, List.set_cons_succ]
    refine wpAnyL_take 2 13 (.int .i64 (n : Int)) [] rfl rfl (by kernel_rfl) (by kernel_rfl) (by kernel_rfl) (by kernel_rfl) (by kernel_rfl) (fun _ _ _ h => h) (by rfl) (fun _ _ => by go_simp) hS ?_
    simp only [Act.put, List.setIfInBounds_toArray, List.set_cons_zero, List.set_cons_succ]
    refine wpAnyL_take 3 14 (.func (.func 80) #[] #[.pointer (some ⟨bl, 0, none⟩), .pointer (some ⟨bl + 1, 0, none⟩)]) [] rfl rfl (by kernel_rfl) (by kernel_rfl) (by kernel_rfl) (by kernel_rfl) (by kernel_rfl) (fun _ _ _ h => h) (by rfl) (fun _ _ => by go_simp) hS ?_
    simp only [Act.put, List.setIfInBounds_toArray, List.set_cons_zero, List.set_cons_succ]
    refine wpAnyL_one (i := 4) (by kernel_rfl) rfl (by rfl) fun K hK => ?_
    refine wp_call_fn 79 _ _ (by rfl) #[.int .i64 (n : Int), .func (.func 80) #[] #[.pointer (some ⟨bl, 0, none⟩), .pointer (some ⟨bl + 1, 0, none⟩)]] (by with_unfolding_all rfl) entSS (some 15) (by rfl) _ (asV (unhide HSE X0 HD0)) ?_
    rintro _ X1 ⟨rfl, q1, hq1⟩
    subst hq1
    refine hK _ _ (fun _ => (show (X0.drewN q1).heap[bl]? = _ from hS)) ?_
    clear hK K
    simp only [Act.put, List.setIfInBounds_toArray, List.set_cons_zero, List.set_cons_succ]
    refine wpAnyL_take 5 16 (.slice ro nr rc) [] rfl rfl (by kernel_rfl) (by kernel_rfl) (by kernel_rfl) (by kernel_rfl) (by kernel_rfl) (fun _ _ _ h => h) (by rfl) (fun G _ => by have := unhide HTR G; go_simp) (show (X0.drewN q1).heap[bl]? = _ from hS) ?_
    simp only [Act.put, List.setIfInBounds_toArray, List.set_cons_zero, List.set_cons_succ]
    refine wpAnyL_one (i := 6) (by kernel_rfl) rfl (by rfl) fun K hK => ?_
    refine wp_val (.slice ro nr rc) (by go_simp) (some 6) (by rfl) ?_
    refine hK _ _ (fun _ => (show (X0.drewN q1).heap[bl]? = _ from hS)) ?_
    clear hK K
    simp only [Act.put, List.setIfInBounds_toArray, List.set_cons_zero, List.set_cons_succ]
    refine wpAnyL_done (by kernel_rfl) ?_ _
    have HU4 : Hid (Below u.heap.size u (X0.drewN q1)) := belowDrewN HD0.1 _
    have HCL := hide (sClone (r'.take mn) ro mn rc (X0.drewN q1) (unhide HEC _ (unhide HU4)))
    clear hS HD0
    generalize X0.drewN q1 = X2 at *
    rcases Nat.lt_or_ge 64 nr with h64 | h64
    · obtain rfl : mn = 64 := by omega
      have h64i : (64 : Int) < (nr : Int) := by omega
      have hdb2 : decide ((64 : Int) < (nr : Int)) = r := hdb
      have hrc2 : ∀ W : World, (Instr.slice 27 (.slice ro nr rc) none (some (.int .i64 64)) none).run Try.prog W = .ok (.slice ro 64 rc) W := hrc
      have hr1 : r = true := by rw [← hdb2]; exact decide_eq_true h64i
      subst hr1
      clear hdb hdb2 hmni hmx hmnr h64
      go_wp2_with (first
        | (go_at_call 81; refine (unhide HCL).mono ?_; rintro e W5 ⟨xo, cc, rfl, ho, hb⟩; have HU5 : Hid (Below u.heap.size u W5) := Below.step (unhide HU4) hb; have HO5 := hide ho; have HS5 : Hid (u.heap.size ≤ X2.heap.size) := (unhide HU4).size; clear hb ho)
        | fail)
      go_ret2
      exact ⟨xo, _, cc, rfl, unhide HML, (unhide HO5).down (unhide HS5), unhide HU5⟩
    · obtain rfl : mn = nr := by omega
      have h64i : ¬ (64 : Int) < (mn : Int) := by omega
      have hr1 : r = false := by rw [← hdb]; exact decide_eq_false (by omega)
      subst hr1
      have hlt0 : ¬ (mn : Int) < (mn : Int) := by omega
      clear hdb hmni hmx hmnr h64
      go_wp2_with (first
        | (go_at_call 81; refine (unhide HCL).mono ?_; rintro e W5 ⟨xo, cc, rfl, ho, hb⟩; have HU5 : Hid (Below u.heap.size u W5) := Below.step (unhide HU4) hb; have HO5 := hide ho; have HS5 : Hid (u.heap.size ≤ X2.heap.size) := (unhide HU4).size; clear hb ho)
        | fail)
      go_ret2
      exact ⟨xo, _, cc, rfl, unhide HML, (unhide HO5).down (unhide HS5), unhide HU5⟩
  · rw [Bool.not_eq_true] at h1
    rw [h1] at HL1
    rw [if_neg (by rw [h1]; decide)] at hv
    cases hv
    clear h1 h hbl
    go_enter Try.func39, Try.ntmps39
    go_wp2_with (first
      | ((with_reducible refine wpList_box_row (by rfl) 27 (.tmp 0) (by rfl) (some 2) (by rfl) bl (unhide HBL).symm #[.slice ao n c] (by with_unfolding_all rfl) ?_); intro W1 HX1 HB1 HS1; simp only [Act.put, List.setIfInBounds_toArray, List.set_cons_zero, List.set_cons_succ])
      | ((with_reducible refine wpList_box_row (by rfl) 9 (.tmp 1) (by rfl) (some 3) (by rfl) (bl + 1) (unhide HS1) #[.string k] (by with_unfolding_all rfl) ?_); intro W2 HX2 HB2 HS2; simp only [Act.put, List.setIfInBounds_toArray, List.set_cons_zero, List.set_cons_succ]; have HU2 : Hid (Below u.heap.size u W2) := (by rw [← unhide HBL]; exact (unhide HB1).trans ((unhide HB2).mono (Nat.le_succ _))); have HX1' : Hid (W2.heap[bl]? = some (.cells #[.slice ao n c] 27 (0, 0))) := ((unhide HB2).block bl (Nat.lt_succ_self _)).trans (unhide HX1); have c1 := cell_one (unhide HX1'))
      | (go_at_call 65; refine (unhide HL1 W2 (unhide HU2)).mono ?_; rintro e W3 ⟨rfl, hb⟩; have HU3 : Hid (Below u.heap.size u W3) := Below.step (unhide HU2) hb; clear hb c1)
      | fail)
    go_ret2
    exact ⟨none, 0, 0, rfl, rfl, Rec.Own.none _ _, unhide HU3⟩
end Go.Proofs.Ytbahlfpcbplofaa.S
