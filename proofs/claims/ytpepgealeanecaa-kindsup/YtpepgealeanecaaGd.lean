/- A tally's bytes, put. -/
import Derived.Test.YtpepgealeanecaaGc
import Derived.ChangeKeysEq
import Derived.Laws.StructEq
namespace Go.Proofs.Ytpepgealeanecaa
open Go.RowKit Go.Lib
theorem Wr.below {w w' : World} {a r : Nat} {bs : List UInt8} (h : W.Wr w a r bs) (hb : Below w.heap.size w w') : W.Wr w' a r bs := W.Wr.same h hb.size (hb.block a h.1) (hb.block r h.2.1)
theorem Rd.below {w w' : World} {a : Nat} {s : ByteArray} {p : Nat} {e : Int} (h : W.Rd w a s p e) (hb : Below w.heap.size w w') : W.Rd w' a s p e := h.same hb.size (hb.block a h.lt)
/-- a writer of one's own, behind the block B -/
structure Wn (u w : World) (B a r : Nat) (bs : List UInt8) : Prop where
  wr : W.Wr w a r bs
  below : Below B u w
  sz : B ≤ w.heap.size
  ha : B ≤ a
  hr : B ≤ r
theorem Wn.put {u w w' : World} {B a r r' : Nat} {bs bs' : List UInt8} (h : Wn u w B a r bs) (hp : W.Put w w' a r r' bs') : Wn u w' B a r' bs' :=
  ⟨hp.1, h.below.trans (hp.2.2.below h.sz h.ha h.hr), Nat.le_trans h.sz hp.2.2.size, h.ha, by rcases hp.2.1 with e | e; rw [e]; exact h.hr; exact Nat.le_trans h.sz e⟩
theorem Wn.belw {u w w' : World} {B a r : Nat} {bs : List UInt8} (h : Wn u w B a r bs) (hb : Below w.heap.size w w') : Wn u w' B a r bs :=
  ⟨Wr.below h.wr hb, h.below.trans (hb.mono h.sz), Nat.le_trans h.sz hb.size, h.ha, h.hr⟩
theorem Wn.max {u w : World} {B a r : Nat} {bs : List UInt8} (h : Wn u w B a r bs) : bs.length ≤ 140737488355328 := h.wr.2.2.1
theorem Wn.new (u : World) (t : TypeId) : Wn u (u.alloc (.cells #[.slice none 0 0] t)) u.heap.size u.heap.size u.heap.size [] :=
  ⟨W.Wr.new u t, (Below.refl _ _).alloc (Nat.le_refl _) _, by simp, Nat.le_refl _, Nat.le_refl _⟩
/-- the bytes of one replica's counts -/
def tal1 (ta : List Nat) (i : Nat) : List UInt8 := if ta.getD (2 * i) 0 = 0 ∧ ta.getD (2 * i + 1) 0 = 0 then [] else UInt8.ofNat (i + 1) :: (W.fixB (ta.getD (2 * i) 0) 2 ++ W.fixB (ta.getD (2 * i + 1) 0) 2)
/-- the bytes of the first replicas' counts -/
def talU (ta : List Nat) : Nat → List UInt8
  | 0 => []
  | n + 1 => talU ta n ++ tal1 ta n
theorem tal1_len (ta : List Nat) (i : Nat) : (tal1 ta i).length ≤ 5 := by
  unfold tal1; split
  · simp
  · simp [W.fixB_length]
theorem talU_len (ta : List Nat) (n : Nat) : (talU ta n).length ≤ 5 * n := by
  induction n with
  | zero => simp [talU]
  | succ n ih => have := tal1_len ta n; simp [talU]; omega
theorem ten {ta : List Nat} (hl : ta.length = 10) : ∃ a0 a1 a2 a3 a4 a5 a6 a7 a8 a9, ta = [a0, a1, a2, a3, a4, a5, a6, a7, a8, a9] := by
  match ta, hl with
  | [a0, a1, a2, a3, a4, a5, a6, a7, a8, a9], _ => exact ⟨a0, a1, a2, a3, a4, a5, a6, a7, a8, a9, rfl⟩
theorem ctZero : ((Try.prog.info? 73).bind (·.zero)).map (·.cells) = some #[.int .u16 0, .int .u16 0] := by kernel_rfl
theorem ctInfo : (Try.prog.info? 73).map (·.size) = some 2 := by kernel_rfl
theorem ixTa {ta : List Nat} (hl : ta.length = 10) {i : Nat} (hi : i < 5) (W : World) : (Instr.index 75 (.agg (taC ta).toArray) (.int .i64 (i : Int))).run Try.prog W = .ok (.agg #[.int .u16 (ta.getD (2 * i) 0 : Nat), .int .u16 (ta.getD (2 * i + 1) 0 : Nat)]) W := by
  have hag : (isAgg 73).run Try.prog W = .ok true W := by simp [isAgg, run_underlying Try.underlying73]
  have hsz := sizeN ctInfo
  simp only [Instr.index, asIntOf, Sem.run_bind, Sem.run_pure, Result.andThen_ok, run_underlying Try.underlying75]
  rw [if_pos ⟨by omega, by omega⟩]
  simp only [part, Sem.run_bind, hsz, hag, Result.andThen_ok, if_true, Sem.run_pure, Int.toNat_natCast]
  obtain ⟨a0, a1, a2, a3, a4, a5, a6, a7, a8, a9, rfl⟩ := ten hl
  have : i = 0 ∨ i = 1 ∨ i = 2 ∨ i = 3 ∨ i = 4 := by omega
  rcases this with rfl | rfl | rfl | rfl | rfl <;> rfl
theorem eqCtI (u d : Int) (W : World) : (Op.equalIn 10000 73 (.agg #[.int .u16 u, .int .u16 d]) (.agg #[.int .u16 0, .int .u16 0])).run Try.prog W = .ok (decide (u = 0 ∧ d = 0)) W := by
  have hi : (Try.prog.info? 71).map (·.size) = some 1 := by kernel_rfl
  cases hq : Try.prog.info? 71 with
  | none => simp [hq] at hi
  | some i =>
    have hs : i.size = 1 := by simpa [hq] using hi
    have hc : Try.prog.cellsOf 71 = 1 := by simp [Program.cellsOf, hq, hs]
    rw [show 10000 = 9998 + 1 + 1 from rfl, run_equalIn_array W _ _ _ Try.underlying73 hq, hc]
    have hp : ∀ (xs : Array Value) (j : Nat) (x : Int), xs[j]? = some (.int .u16 x) → (part 71 xs j).run Try.prog W = .ok (.int .u16 x) W := fun xs j x hx => by simp [part, isAgg, run_underlying Try.underlying71, hx]
    rw [show List.range 2 = [0, 1] from rfl]
    have e0 := hp #[.int .u16 u, .int .u16 d] 0 u rfl
    have e1 := hp #[.int .u16 u, .int .u16 d] 1 d rfl
    have f0 := hp #[.int .u16 0, .int .u16 0] 0 0 rfl
    have f1 := hp #[.int .u16 0, .int .u16 0] 1 0 rfl
    have q : ∀ x y : Int, (Op.equalIn (9998 + 1) 71 (.int .u16 x) (.int .u16 y)).run Try.prog W = .ok (x == y) W := fun x y => run_equalIn_int W _ 71 .u16 .u16 x y Try.underlying71
    by_cases h1 : u = 0
    · by_cases h2 : d = 0
      · have k1 : (u == 0) = true := by simpa using h1
        have k2 : (d == 0) = true := by simpa using h2
        rw [decide_eq_true ⟨h1, h2⟩]
        simp [Op.eqItems, Sem.run_bind, e0, e1, f0, f1, q, k1, k2]
      · have k1 : (u == 0) = true := by simpa using h1
        have k2 : (d == 0) = false := by simpa using h2
        rw [decide_eq_false (fun h => h2 h.2)]
        simp [Op.eqItems, Sem.run_bind, e0, e1, f0, f1, q, k1, k2]
    · have k1 : (u == 0) = false := by simpa using h1
      rw [decide_eq_false (fun h => h1 h.1)]
      simp [Op.eqItems, Sem.run_bind, e0, f0, q, k1]
theorem eqCt (u d : Nat) (W : World) : (Op.equalIn 10000 73 (.agg #[.int .u16 (u : Int), .int .u16 (d : Int)]) (.agg #[.int .u16 0, .int .u16 0])).run Try.prog W = .ok (decide (u = 0 ∧ d = 0)) W := by
  rw [eqCtI]
  congr 1
  exact decide_eq_decide.2 (by omega)
theorem box_put {w w' : World} {a r r' M : Nat} {bs : List UInt8} {o : Obj} (hp : W.Put w w' a r r' bs) (hx : w.heap[M]? = some o) (h1 : M ≠ a) (h2 : M ≠ r) : w'.heap[M]? = some o ∧ M ≠ r' := by
  have hM := (Array.getElem?_eq_some_iff.1 hx).1
  refine ⟨(hp.2.2.block M hM h1 h2).trans hx, ?_⟩
  rcases hp.2.1 with e | e
  · rw [e]; exact h2
  · omega
theorem ct_all (u d : Int) : (#[.int .u16 u, .int .u16 d] : Array Value).all (·.oneCell') = true := by
  rw [Array.all_eq_true']
  intro v hv
  simp only [List.mem_toArray, List.mem_cons, List.not_mem_nil, or_false] at hv
  rcases hv with rfl | rfl <;> rfl
theorem wpList_store_ct {ops : Array Oper} {rest : List Oper} {o : Oper} {a : Act} {w : World} {Q : Exit → Act → World → Prop} (hgd : o.guard = none) (x y : Operand) (ho : o.op = .store 73 x y) (g : Nat) (p q : Int) (hx : a.eval x = .pointer (some ⟨g, 0, none⟩)) (hy : a.eval y = .agg #[.int .u16 p, .int .u16 q])
    {c0 c1 : Value} (hg : w.heap[g]? = some (.cells #[c0, c1] 73 (0, 0)))
    (h : ∀ w', Hid (w'.heap[g]? = some (.cells #[.int .u16 p, .int .u16 q] 73 (0, 0))) → Hid (w' = w.setRow g #[.int .u16 p, .int .u16 q]) → wpList Try.prog ops Q rest (a.put o.dst undef) w') : wpList Try.prog ops Q (o :: rest) a w :=
  wpList_store_hid hgd _ x y ho g _ hx hy _ _ hg ctInfo rfl (ct_all _ _) h
theorem wpList_alloc_ct {ops : Array Oper} {rest : List Oper} {o : Oper} {a : Act} {w : World} {Q : Exit → Act → World → Prop} (hg : o.guard = none) (ho : o.op = .alloc 73) (d : Option Tmp) (hd : o.dst = d) (N : Nat) (hN : N = w.heap.size)
    (h : ∀ w', Hid (w'.heap[N]? = some (.cells #[.int .u16 0, .int .u16 0] 73 (0, 0))) → Hid (Below N w w') → Hid (w'.heap.size = N + 1) → wpList Try.prog ops Q rest (a.put d (.pointer (some ⟨N, 0, none⟩))) w') : wpList Try.prog ops Q (o :: rest) a w :=
  wpList_alloc_row hg _ ho d hd N hN.symm _ ctZero h
theorem ct_cells {W : World} {N : Nat} {c0 c1 : Value} {t : TypeId} (h : W.heap[N]? = some (.cells #[c0, c1] t (0, 0))) : W.cell? ⟨N, 0, none⟩ = some c0 ∧ W.cell? ⟨N, 1, none⟩ = some c1 := by
  refine ⟨?_, ?_⟩ <;> simp [World.cell?, h]
set_option maxRecDepth 100000 in
set_option maxHeartbeats 4000000 in
theorem lTalPut (ta : List Nat) (hl : ta.length = 10) (hb : ∀ x ∈ ta, x < 65536) (u0 u : World) (B a r : Nat) (bs : List UInt8) (h : Wn u0 u B a r bs) (hlen : bs.length ≤ 900) :
    Calls Try.prog 78 #[.agg (taC ta).toArray, .pointer (some ⟨a, 0, none⟩)] u fun e u' => e = .returned (.tuple #[]) ∧ ∃ r', Wn u0 u' B a r' (bs ++ talU ta 5) := by
  have HW := hide h
  have HIX : Hid (∀ i : Nat, i < 5 → ∀ W : World, (Instr.index 75 (.agg (taC ta).toArray) (.int .i64 (i : Int))).run Try.prog W = .ok (.agg #[.int .u16 (ta.getD (2 * i) 0 : Nat), .int .u16 (ta.getD (2 * i + 1) 0 : Nat)]) W) := fun i hi W => ixTa hl hi W
  have HBD : Hid (∀ i : Nat, ta.getD i 0 < 65536) := fun i => by
    rcases Nat.lt_or_ge i ta.length with hi | hi
    · rw [List.getD_eq_getElem?_getD, List.getElem?_eq_getElem hi]; exact hb _ (List.getElem_mem hi)
    · rw [List.getD_eq_getElem?_getD, List.getElem?_eq_none hi]; decide
  have HSZ : Hid ((Try.prog.info? 75).map (·.size) = some (taC ta).toArray.size) := by rw [show (taC ta).toArray.size = 10 by simp [taC_len, hl]]; exact taInfo
  have HTL : Hid (∀ n, (talU ta n).length ≤ 5 * n) := talU_len ta
  have HTS : Hid (∀ n, talU ta (n + 1) = talU ta n ++ tal1 ta n) := fun _ => rfl
  have HT0 : Hid (talU ta 0 = []) := rfl
  have HT1 : Hid (∀ i, tal1 ta i = if ta.getD (2 * i) 0 = 0 ∧ ta.getD (2 * i + 1) 0 = 0 then [] else UInt8.ofNat (i + 1) :: (W.fixB (ta.getD (2 * i) 0) 2 ++ W.fixB (ta.getD (2 * i + 1) 0) 2)) := fun _ => rfl
  generalize talU ta = TU at *
  generalize tal1 ta = T1 at *
  generalize (taC ta).toArray = TA at *
  clear h hl hb
  have HLB := hide hlen
  clear hlen
  obtain ⟨N, hN⟩ : ∃ N, N = u.heap.size := ⟨_, rfl⟩
  have HN := hide hN
  clear hN
  go_enter Try.func78, Try.ntmps78
  go_wp2_with (first
    | ((with_reducible refine wpList_box_row (by rfl) _ (.tmp 0) (by rfl) (some 2) (by rfl) N (unhide HN).symm TA (by with_unfolding_all rfl) ?_); intro W1 HX1 HB1 HS1; simp only [Act.put, List.setIfInBounds_toArray, List.set_cons_zero, List.set_cons_succ]; have HW1 := hide ((unhide HW).belw (w' := W1) (by rw [← unhide HN]; exact unhide HB1)))
    | ((with_reducible refine wpList_load_row (by rfl) _ (.tmp 2) (by rfl) N (by with_unfolding_all rfl) _ _ _ _ (unhide HX1) Try.underlying75 rfl (unhide HSZ) ?_); simp only [Act.put, List.setIfInBounds_toArray, List.set_cons_zero, List.set_cons_succ])
    | fail)
  clear HX1 HB1 HS1
  go_loopw [7] (fun s7 wr => ∃ (k r2 : Nat), k ≤ 5 ∧ s7 = .int .i64 k ∧ Hid (Wn u0 wr B a r2 (bs ++ TU k))) (fun s7 _ => 5 - (intOf s7).toNat)
  case atStart => exact ⟨0, r, by omega, rfl, by rw [unhide HT0, List.append_nil]; exact unhide HW1⟩
  case round =>
    obtain ⟨k, r2, hk, rfl, HI⟩ := hrel
    by_cases hlt : k < 5
    · have hki : (k : Int) < 5 := by omega
      have hix := unhide HIX k hlt
      have HTk := hide (unhide HTS k)
      have HTl := hide (unhide HTL k)
      have HT1k := hide (unhide HT1 k)
      have HU := hide (unhide HBD (2 * k))
      have HD := hide (unhide HBD (2 * k + 1))
      generalize ta.getD (2 * k) 0 = x at *
      generalize ta.getD (2 * k + 1) 0 = y at *
      obtain ⟨M, hM⟩ : ∃ M, M = wr.heap.size := ⟨_, rfl⟩
      have HM := hide hM
      clear hM
      have HEQ := hide (eqCt x y)
      by_cases hz : x = 0 ∧ y = 0
      · have heq : ∀ W : World, (Op.equalIn 10000 73 (.agg #[.int .u16 (x : Int), .int .u16 (y : Int)]) (.agg #[.int .u16 0, .int .u16 0])).run Try.prog W = .ok true W := fun W => by rw [unhide HEQ W, decide_eq_true hz]
        rw [if_pos hz] at HT1k
        have HZ := hide hz
        clear hz
        go_wp2_with (first
          | ((with_reducible refine wpList_alloc_ct (by rfl) (by rfl) (some 5) (by rfl) M (unhide HM) ?_); intro W7 HX7 HB7 HS7; simp only [Act.put, List.setIfInBounds_toArray, List.set_cons_zero, List.set_cons_succ])
          | ((with_reducible refine wpList_store_ct (by rfl) (.tmp 5) (.tmp 10) (by rfl) M (x : Int) (y : Int) (by with_unfolding_all rfl) (by with_unfolding_all rfl) (unhide HX7) ?_); intro W8 HX8 HE8; simp only [Act.put]; have HW8 := hide ((unhide HI).belw (w' := W8) (by rw [← unhide HM, unhide HE8]; exact belowRow (unhide HB7) (Nat.le_refl _) _)); obtain ⟨y0, y1⟩ := ct_cells (unhide HX8))
          | fail)
        exact ⟨⟨k + 1, r2, by omega, by go_num, by rw [unhide HTk, unhide HT1k, List.append_nil]; exact unhide HW8⟩, by simp [intOf]; omega⟩
      · have heq : ∀ W : World, (Op.equalIn 10000 73 (.agg #[.int .u16 (x : Int), .int .u16 (y : Int)]) (.agg #[.int .u16 0, .int .u16 0])).run Try.prog W = .ok false W := fun W => by rw [unhide HEQ W, decide_eq_false hz]
        rw [if_neg hz] at HT1k
        clear hz
        have hcv : IntKind.u8.wrap ((k : Int) + 1) = ((k + 1 : Nat) : Int) := by rw [IntKind.wrap_u8]; omega
        have hx64 : IntKind.u64.wrap (x : Int) = (x : Int) := by rw [IntKind.wrap_u64]; have := unhide HU; omega
        have hy64 : IntKind.u64.wrap (y : Int) = (y : Int) := by rw [IntKind.wrap_u64]; have := unhide HD; omega
        have HK1 : Hid ((k + 1 : Nat) < 256) := by show k + 1 < 256; omega
        have HKB : Hid (((k + 1 : Nat) : Int).toNat = k + 1) := rfl
        generalize hk1 : ((k + 1 : Nat) : Int) = k1 at hcv HKB
        have HK1' : Hid (0 ≤ k1 ∧ k1 < 256) := by rw [← hk1]; exact ⟨by omega, by have := unhide HK1; omega⟩
        clear hk1
        have HL1 : Hid ((bs ++ TU k).length ≤ 930) := by show _ ≤ _; rw [List.length_append]; have := unhide HLB; have := unhide HTl; omega
        have HFX : Hid (∀ (w : World) (r : Nat) (b : List UInt8), W.Wr w a r b → b.length + 8 ≤ 140737488355328 → Calls Try.prog 98 #[.pointer (some ⟨a, 0, none⟩), .int .u64 (x : Int), .int .i64 2] w fun e w' => e = .returned (.int .i64 0) ∧ ∃ r', W.Put w w' a r r' (b ++ W.fixB x 2)) := fun w r b h1 h2 => W.wFixed a r b x 2 w h1 (by decide) (by decide) (unhide HU) h2
        have HFY : Hid (∀ (w : World) (r : Nat) (b : List UInt8), W.Wr w a r b → b.length + 8 ≤ 140737488355328 → Calls Try.prog 98 #[.pointer (some ⟨a, 0, none⟩), .int .u64 (y : Int), .int .i64 2] w fun e w' => e = .returned (.int .i64 0) ∧ ∃ r', W.Put w w' a r r' (b ++ W.fixB y 2)) := fun w r b h1 h2 => W.wFixed a r b y 2 w h1 (by decide) (by decide) (unhide HD) h2
        have HMA : Hid (M ≠ a) := by show M ≠ a; have := (unhide HI).wr.1; rw [unhide HM]; omega
        have HMR : Hid (M ≠ r2) := by show M ≠ r2; have := (unhide HI).wr.2.1; rw [unhide HM]; omega
        generalize hb1 : bs ++ TU k = b1 at *
        have HB1 := hide hb1
        clear hb1
        go_wp2_with (first
          | ((with_reducible refine wpList_alloc_ct (by rfl) (by rfl) (some 5) (by rfl) M (unhide HM) ?_); intro W7 HX7 HB7 HS7; simp only [Act.put, List.setIfInBounds_toArray, List.set_cons_zero, List.set_cons_succ])
          | ((with_reducible refine wpList_store_ct (by rfl) (.tmp 5) (.tmp 10) (by rfl) M (x : Int) (y : Int) (by with_unfolding_all rfl) (by with_unfolding_all rfl) (unhide HX7) ?_); intro W8 HX8 HE8; simp only [Act.put]; have HW8 := hide ((unhide HI).belw (w' := W8) (by rw [← unhide HM, unhide HE8]; exact belowRow (unhide HB7) (Nat.le_refl _) _)); obtain ⟨y0, y1⟩ := ct_cells (unhide HX8))
          | (go_at_call 77; refine (W.wByte a r2 _ k1 W8 (unhide HW8).wr (unhide HK1').1 (unhide HK1').2 (by have := unhide HL1; omega)).mono ?_; rintro e W9 ⟨rfl, r9, hp9⟩; obtain ⟨z9, n9⟩ := box_put hp9 (unhide HX8) (unhide HMA) (unhide HMR); have HX9 := hide z9; have HN9 := hide n9; have HW9 := hide ((unhide HW8).put hp9); clear hp9 z9 n9; rw [unhide HKB] at HW9; obtain ⟨y2, y3⟩ := ct_cells (unhide HX9))
          | (go_at_call 98; refine (unhide HFX W9 r9 _ (unhide HW9).wr (by have := unhide HL1; simp only [List.length_append, List.length_cons, List.length_nil]; omega)).mono ?_; rintro e W10 ⟨rfl, r10, hp10⟩; obtain ⟨z9, n9⟩ := box_put hp10 (unhide HX9) (unhide HMA) (unhide HN9); have HX10 := hide z9; have HN10 := hide n9; have HW10 := hide ((unhide HW9).put hp10); clear hp10 z9 n9 HN9 HFX; obtain ⟨y4, y5⟩ := ct_cells (unhide HX10))
          | (go_at_call 98; refine (unhide HFY W10 r10 _ (unhide HW10).wr (by have := unhide HL1; simp only [List.length_append, List.length_cons, List.length_nil, W.fixB_length]; omega)).mono ?_; rintro e W11 ⟨rfl, r11, hp11⟩; have HW11 := hide ((unhide HW10).put hp11); clear hp11)
          | fail)
        go_roundw
        case rel => exact ⟨k + 1, r11, by omega, by go_num, by rw [unhide HTk, unhide HT1k, ← List.append_assoc, unhide HB1, show UInt8.ofNat (k + 1) :: (W.fixB x 2 ++ W.fixB y 2) = [UInt8.ofNat (k + 1)] ++ (W.fixB x 2 ++ W.fixB y 2) from rfl, ← List.append_assoc, ← List.append_assoc]; exact unhide HW11⟩
        case measure => simp [intOf]; omega
    · obtain rfl : k = 5 := by omega
      have hki : ¬ (5 : Int) < 5 := by omega
      go_wp2
      go_returns
      exact ⟨rfl, r2, unhide HI⟩
end Go.Proofs.Ytpepgealeanecaa
