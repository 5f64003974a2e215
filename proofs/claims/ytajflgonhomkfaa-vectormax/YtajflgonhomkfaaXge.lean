/- Vectors: kept; copy into a list that was lent. -/
import Derived.Test.YtajflgonhomkfaaXgd
import Derived.Laws.CopyOwn
namespace Go.Proofs.Ytajflgonhomkfaa
open Go.RowKit

theorem run_copyK {P : Program} (w : World) (dT sT ty elem : TypeId) (z : Nat) (hz : 0 < z) (dp sp : Option Addr) (dLen dCap sLen sCap : Nat) (hu : P.underlying dT = some (.slice elem)) (hs : (P.info? elem).map (·.size) = some z)
    (g off : Nat) (cur : List Value) (t : TypeId) (hg : w.heap[g]? = some (.cells cur.toArray t (0, 0))) (cs : List Value) (hn : cs.length = Nat.min sLen dLen * z)
    (hpos : 0 < cs.length → dp = some ⟨g, off, none⟩ ∧ ∃ ad, sp = some ad ∧ ∀ j v, cs[j]? = some v → w.cell? (ad.add j) = some v)
    (hfit : off + cs.length ≤ cur.length) (h1 : ∀ v ∈ cs, v.oneCell' = true) :
    ∃ w', (Builtin.copy_ #[dT, sT] ty #[.slice dp dLen dCap, .slice sp sLen sCap]).run P w = .ok (goInt (Nat.min sLen dLen)) w' ∧ w'.heap[g]? = some (.cells (splice cur off cs).toArray t (0, 0)) ∧ U1 w w' g := by
  cases hq : P.info? elem with
  | none => simp [hq] at hs
  | some i =>
    have hi : i.size = z := by simpa [hq] using hs
    by_cases h0 : cs.length = 0
    · obtain rfl : cs = [] := List.eq_nil_of_length_eq_zero h0
      have hm : Nat.min sLen dLen = 0 := by
        rcases Nat.eq_zero_or_pos (Nat.min sLen dLen) with h | h
        · exact h
        · have := Nat.mul_pos h hz
          simp at hn
          omega
      refine ⟨w, ?_, by simpa [splice] using hg, U1.refl _ _⟩
      have hl : ∀ (x : Addr), (loadCells x 0).run P w = .ok #[] w := fun x => by simpa using run_loadCells_list (P := P) w x [] (by simp)
      cases dp <;> cases sp <;> simp [Builtin.copy_, run_underlying hu, Builtin.lenOf, Builtin.firstCells, sizeOf, typeInfo, hq, hm, storeCells, hl]
    · obtain ⟨rfl, ad, rfl, hsrc⟩ := hpos (by omega)
      have hl := run_loadCells_list (P := P) w ad cs hsrc
      have hst := run_storeCells_at P g off t cs 0 cur.toArray w hg (by simpa using hfit) h1
      refine ⟨w.setRow g (splice cur off cs).toArray, ?_, ?_, ?_⟩
      · simp [Builtin.copy_, run_underlying hu, Builtin.lenOf, Builtin.firstCells, sizeOf, typeInfo, hq, hi, ← hn, hl, hst, splice]
      · exact heapRow_same hg _
      · exact ⟨rfl, rfl, rfl, by simp [World.setRow], fun k _ hk => heapRow_other w g k _ hk⟩
theorem wpList_copyK {P : Program} {w : World} {ops : Array Oper} {rest : List Oper} {o : Oper} {a : Act} {Q : Exit → Act → World → Prop} (hgd : o.guard = none) (d s : Operand) (dT sT : TypeId)
    (ho : o.op = .call { callee := .builtin .copy, args := #[d, s], argTypes := #[dT, sT] }) (D : Option Tmp) (hD : o.dst = D) (elem : TypeId) (hu : P.underlying dT = some (.slice elem)) (z : Nat) (hz : 0 < z) (hsz : (P.info? elem).map (·.size) = some z)
    (dp sp : Option Addr) (dLen dCap sLen sCap : Nat) (hd : a.eval d = .slice dp dLen dCap) (hs : a.eval s = .slice sp sLen sCap)
    (g off : Nat) (cur : List Value) (t : TypeId) (hg : w.heap[g]? = some (.cells cur.toArray t (0, 0))) (cs : List Value) (hn : cs.length = Nat.min sLen dLen * z)
    (hpos : 0 < cs.length → dp = some ⟨g, off, none⟩ ∧ ∃ ad, sp = some ad ∧ ∀ j v, cs[j]? = some v → w.cell? (ad.add j) = some v)
    (hfit : off + cs.length ≤ cur.length) (h1 : ∀ v ∈ cs, v.oneCell' = true)
    (h : ∀ w' n, Hid (w'.heap[g]? = some (.cells (splice cur off cs).toArray t (0, 0))) → Hid (U1 w w' g) → wpList P ops Q rest (a.put D (goInt n)) w') :
    wpList P ops Q (o :: rest) a w := by
  subst hD
  refine wpList_plain hgd fun K hK => ?_
  obtain ⟨w', hrun, h2, h3⟩ := run_copyK (P := P) w dT sT o.type elem z hz dp sp dLen dCap sLen sCap hu hsz g off cur t hg cs hn hpos hfit h1
  unfold Oper.wp
  simp [execOp, ho, resolve, invoke, builtin, hd, hs, hrun, Result.andThen]
  exact hK _ _ (h w' _ h2 h3)
theorem wp_copyK {P : Program} {o : Oper} {a : Act} {w : World} {K : Act → World → Prop} {Q : Exit → Act → World → Prop} (d s : Operand) (dT sT : TypeId)
    (ho : o.op = .call { callee := .builtin .copy, args := #[d, s], argTypes := #[dT, sT] }) (D : Option Tmp) (hD : o.dst = D) (elem : TypeId) (hu : P.underlying dT = some (.slice elem)) (z : Nat) (hz : 0 < z) (hsz : (P.info? elem).map (·.size) = some z)
    (dp sp : Option Addr) (dLen dCap sLen sCap : Nat) (hd : a.eval d = .slice dp dLen dCap) (hs : a.eval s = .slice sp sLen sCap)
    (g off : Nat) (cur : List Value) (t : TypeId) (hg : w.heap[g]? = some (.cells cur.toArray t (0, 0))) (cs : List Value) (hn : cs.length = Nat.min sLen dLen * z)
    (hpos : 0 < cs.length → dp = some ⟨g, off, none⟩ ∧ ∃ ad, sp = some ad ∧ ∀ j v, cs[j]? = some v → w.cell? (ad.add j) = some v)
    (hfit : off + cs.length ≤ cur.length) (h1 : ∀ v ∈ cs, v.oneCell' = true)
    (h : ∀ w' n, Hid (w'.heap[g]? = some (.cells (splice cur off cs).toArray t (0, 0))) → Hid (U1 w w' g) → K (a.put D (goInt n)) w') :
    Oper.wp P o a w K Q := by
  subst hD
  obtain ⟨w', hrun, h2, h3⟩ := run_copyK (P := P) w dT sT o.type elem z hz dp sp dLen dCap sLen sCap hu hsz g off cur t hg cs hn hpos hfit h1
  unfold Oper.wp
  simp [execOp, ho, resolve, invoke, builtin, hd, hs, hrun, Result.andThen]
  exact h w' _ h2 h3
theorem eq_mark (n : Nat) (W : World) : (binOp .eql 29 (.agg #[.int .u32 77, .int .u64 ((1125899906842624 + n : Nat) : Int)]) (.agg #[.int .u32 77, .int .u64 ((1125899906842624 + n : Nat) : Int)])).run Try.prog W = .ok (.bool true) W := by rw [eqlD]; simp
set_option maxRecDepth 100000 in
set_option maxHeartbeats 4000000 in
theorem lKept (l : List (Nat × Nat)) (g cc B : Nat) (xv : Option Addr) (cv : Nat) (u : World) (h : Le u B l g cc) (hv : Da u l xv cv) : Calls Try.prog 17 #[.slice (some ⟨g, 0, none⟩) l.length cc, .slice xv l.length cv] u fun e u' => e = .returned (.bool true) ∧ Below u.heap.size u u' := by
  have HS : Hid (∀ w : World, Below u.heap.size u w → Calls Try.prog 21 #[.slice (some ⟨g, 0, none⟩) l.length cc, .slice xv l.length cv] w fun e w' => e = .returned (.bool true) ∧ Below u.heap.size u w') := fun w hw => by
    refine (rSame l l _ _ cc cv w (h.da.below hw).at (hv.below hw).at).mono ?_
    rintro e w' ⟨he, z, rfl⟩
    rw [decide_eq_true rfl] at he
    exact ⟨he, belowDrewN hw _⟩
  have HMK : Hid (∀ (n : Nat), n ≤ 1000 → ∀ w : World, Below u.heap.size u w → Calls Try.prog 49 #[.int .u64 (n : Int)] w fun e w' => e = .returned (.agg #[.int .u32 77, .int .u64 ((1125899906842624 + n : Nat) : Int)]) ∧ Below u.heap.size u w') := fun n hn w hw => (lMark n hn w).mono fun _ _ h => ⟨h.1, hw.trans (h.2.mono hw.size)⟩
  have K1 : Hid (∀ w : World, Below u.heap.size u w → Calls Try.prog 49 #[.int .u64 1] w fun e w' => e = .returned (.agg #[.int .u32 77, .int .u64 1125899906842625]) ∧ Below u.heap.size u w') := unhide HMK 1 (by decide)
  have K2 : Hid (∀ w : World, Below u.heap.size u w → Calls Try.prog 49 #[.int .u64 2] w fun e w' => e = .returned (.agg #[.int .u32 77, .int .u64 1125899906842626]) ∧ Below u.heap.size u w') := unhide HMK 2 (by decide)
  have K3 : Hid (∀ w : World, Below u.heap.size u w → Calls Try.prog 49 #[.int .u64 3] w fun e w' => e = .returned (.agg #[.int .u32 77, .int .u64 1125899906842627]) ∧ Below u.heap.size u w') := unhide HMK 3 (by decide)
  have q1 : ∀ W : World, (binOp .eql 29 (.agg #[.int .u32 77, .int .u64 1125899906842625]) (.agg #[.int .u32 77, .int .u64 1125899906842625])).run Try.prog W = .ok (.bool true) W := eq_mark 1
  have q2 : ∀ W : World, (binOp .eql 29 (.agg #[.int .u32 77, .int .u64 1125899906842626]) (.agg #[.int .u32 77, .int .u64 1125899906842626])).run Try.prog W = .ok (.bool true) W := eq_mark 2
  have q3 : ∀ W : World, (binOp .eql 29 (.agg #[.int .u32 77, .int .u64 1125899906842627]) (.agg #[.int .u32 77, .int .u64 1125899906842627])).run Try.prog W = .ok (.bool true) W := eq_mark 3
  have HC : Hid (∀ w : World, Below u.heap.size u w → (w.cell? ⟨g, l.length * 2, none⟩ = some (.int .u32 77) ∧ w.cell? ⟨g, l.length * 2 + 1, none⟩ = some (.int .u64 1125899906842625)) ∧ (w.cell? ⟨g, (l.length + 1) * 2, none⟩ = some (.int .u32 77) ∧ w.cell? ⟨g, (l.length + 1) * 2 + 1, none⟩ = some (.int .u64 1125899906842626)) ∧ (w.cell? ⟨g, (l.length + 2) * 2, none⟩ = some (.int .u32 77) ∧ w.cell? ⟨g, (l.length + 2) * 2 + 1, none⟩ = some (.int .u64 1125899906842627))) := fun w hw => ⟨(h.below hw).mark 0 (by decide), (h.below hw).mark 1 (by decide), (h.below hw).mark 2 (by decide)⟩
  have hcap := h.cap
  have hl := h.len
  clear h hv HMK
  generalize l.length = n at *
  have hni : (n : Int) ≤ 8796093021952 := by omega
  obtain ⟨n3, hn3⟩ : ∃ m, m = n + 3 := ⟨_, rfl⟩
  obtain ⟨n1, hn1⟩ : ∃ m, m = n + 1 := ⟨_, rfl⟩
  obtain ⟨n2, hn2⟩ : ∃ m, m = n + 2 := ⟨_, rfl⟩
  have hn3i : (n : Int) + 3 = (n3 : Int) := by omega
  have hn1i : IntKind.i64.wrap ((n : Int) + 1) = (n1 : Int) := by rw [IntKind.wrap_i64]; omega
  have hn2i : IntKind.i64.wrap ((n : Int) + 2) = (n2 : Int) := by rw [IntKind.wrap_i64]; omega
  have hcut := cutD g n cc n3 (by omega) (by omega)
  have i0 : ∀ W : World, (Instr.indexAt 22 (.slice (some ⟨g, 0, none⟩) n3 cc) (.int .i64 (n : Int))).run Try.prog W = .ok (.pointer (some ⟨g, n * 2, none⟩)) W := fun W => by have := ixD g 0 n3 cc n (by omega) W; rwa [Nat.zero_add] at this
  have i1 : ∀ W : World, (Instr.indexAt 22 (.slice (some ⟨g, 0, none⟩) n3 cc) (.int .i64 (n1 : Int))).run Try.prog W = .ok (.pointer (some ⟨g, n1 * 2, none⟩)) W := fun W => by have := ixD g 0 n3 cc n1 (by omega) W; rwa [Nat.zero_add] at this
  have i2 : ∀ W : World, (Instr.indexAt 22 (.slice (some ⟨g, 0, none⟩) n3 cc) (.int .i64 (n2 : Int))).run Try.prog W = .ok (.pointer (some ⟨g, n2 * 2, none⟩)) W := fun W => by have := ixD g 0 n3 cc n2 (by omega) W; rwa [Nat.zero_add] at this
  rw [← hn1, ← hn2] at HC
  clear hn1 hn2 hn3 hcap hl
  generalize n * 2 = j0 at *
  generalize n1 * 2 = j1 at *
  generalize n2 * 2 = j2 at *
  obtain ⟨N, hN⟩ : ∃ N, N = u.heap.size := ⟨_, rfl⟩
  rw [← hN] at HS K1 K2 K3 HC ⊢
  have HB0 : Hid (Below N u u) := Below.refl _ _
  clear hN
  obtain ⟨⟨a1, a2⟩, ⟨a3, a4⟩, ⟨a5, a6⟩⟩ := unhide HC _ (unhide HB0)
  go_enter Try.func17, Try.ntmps17
  go_wp2_with fail
  go_region_held3 (fun w => w.cell? ⟨g, j0, none⟩ = some (.int .u32 77) ∧ w.cell? ⟨g, j0 + 1, none⟩ = some (.int .u64 1125899906842625) ∧ w.cell? ⟨g, j1, none⟩ = some (.int .u32 77) ∧ w.cell? ⟨g, j1 + 1, none⟩ = some (.int .u64 1125899906842626) ∧ w.cell? ⟨g, j2, none⟩ = some (.int .u32 77) ∧ w.cell? ⟨g, j2 + 1, none⟩ = some (.int .u64 1125899906842627)) (first | exact ⟨a1, a2, a3, a4, a5, a6⟩ | exact ⟨b1, b2, b3, b4, b5, b6⟩ | exact ⟨c1, c2, c3, c4, c5, c6⟩ | exact ⟨d1, d2, d3, d4, d5, d6⟩ | exact ⟨e1, e2, e3, e4, e5, e6⟩ | (go_keep; done)) (first
    | (go_at_call 21; refine (unhide HS _ (belowDrew (unhide HB0))).mono ?_; rintro e w1 ⟨rfl, hb1⟩; have HB1 := hide hb1; obtain ⟨⟨b1, b2⟩, ⟨b3, b4⟩, ⟨b5, b6⟩⟩ := unhide HC _ hb1; clear hb1)
    | (go_at_call_of 49 (Value.int IntKind.u64 1); refine (unhide K1 _ (unhide HB1)).mono ?_; rintro e w2 ⟨rfl, hb1⟩; have HB2 := hide hb1; obtain ⟨⟨c1, c2⟩, ⟨c3, c4⟩, ⟨c5, c6⟩⟩ := unhide HC _ hb1; clear hb1)
    | (go_at_call_of 49 (Value.int IntKind.u64 2); refine (unhide K2 _ (unhide HB2)).mono ?_; rintro e w3 ⟨rfl, hb1⟩; have HB3 := hide hb1; obtain ⟨⟨d1, d2⟩, ⟨d3, d4⟩, ⟨d5, d6⟩⟩ := unhide HC _ hb1; clear hb1)
    | (go_at_call 49; refine (unhide K3 _ (unhide HB3)).mono ?_; rintro e w4 ⟨rfl, hb1⟩; have HB4 := hide hb1; obtain ⟨⟨e1, e2⟩, ⟨e3, e4⟩, ⟨e5, e6⟩⟩ := unhide HC _ hb1; clear hb1)
    | fail)
  go_wp2
  go_ret
  exact ⟨rfl, unhide HB4⟩
theorem splice_take {cur : List Value} {m l : List (Nat × Nat)} (hm : m.length = l.length) (h : cur.take ((l ++ mks).length * 2) = flatD (l ++ mks)) : (splice cur 0 (flatD m)).take ((m ++ mks).length * 2) = flatD (m ++ mks) := by
  have hl : (l ++ mks).length * 2 = l.length * 2 + 6 := by rw [List.length_append, show mks.length = 3 from rfl]; omega
  have hl2 : (m ++ mks).length * 2 = (flatD m).length + 6 := by rw [List.length_append, flatD_len, show mks.length = 3 from rfl]; omega
  rw [hl, flatD_app] at h
  have hd : (cur.drop (l.length * 2)).take 6 = flatD mks := by
    have := congrArg (List.drop (l.length * 2)) h
    rw [List.drop_take, List.drop_append_of_le_length (by rw [flatD_len]; exact Nat.le_refl _), List.drop_of_length_le (l := flatD l) (by rw [flatD_len]; exact Nat.le_refl _), List.nil_append] at this
    rw [← this]; congr 1; omega
  rw [hl2, flatD_app]
  unfold splice
  rw [List.take_zero, List.nil_append, Nat.zero_add, List.take_append, List.take_of_length_le (by omega), show (flatD m).length + 6 - (flatD m).length = 6 by omega, flatD_len, hm, hd]
/-- other dots copied into a list that was lent -/
theorem wpList_copyD {w : World} {ops : Array Oper} {rest : List Oper} {o : Oper} {a : Act} {Q : Exit → Act → World → Prop} (hgd : o.guard = none) (d s : Operand) (ho : o.op = .call { callee := .builtin .copy, args := #[d, s], argTypes := #[22, 22] }) (D : Option Tmp) (hD : o.dst = D)
    (B : Nat) (l m : List (Nat × Nat)) (g cc n : Nat) (en : n = l.length) (xs : Option Addr) (cs : Nat) (hd : a.eval d = .slice (some ⟨g, 0, none⟩) n cc) (hs : a.eval s = .slice xs n cs) (hle : Le w B l g cc) (hm : Dv w m xs cs) (hml : m.length = l.length) (hf : Fits m)
    (h : ∀ w' k, Hid (Le w' B m g cc) → Hid (U1 w w' g) → wpList Try.prog ops Q rest (a.put D (goInt k)) w') : wpList Try.prog ops Q (o :: rest) a w := by
  subst en
  have ho' := hle.own
  rcases ho'.2 with ⟨hv, _⟩ | ⟨g2, cap2, cur2, hv, h1, h2, h3, h4, h5, h6⟩
  · cases hv
  · simp only [Value.slice.injEq, Option.some.injEq, Addr.mk.injEq] at hv
    obtain ⟨⟨rfl, _, _⟩, _, rfl⟩ := hv
    have hsz : cur2.toList.length = cc * 2 := by rw [Array.length_toList]; exact h5
    have hc3 : l.length + 3 ≤ cc := hle.cap
    refine wpList_copyK hgd d s 22 22 ho D hD 29 undD 2 (by decide) dotInfo (some ⟨g, 0, none⟩) xs l.length cc l.length cs hd hs g 0 cur2.toList 29 (by simpa using h2) (flatD m) (by rw [flatD_len, hml]; simp) (fun h0 => ⟨rfl, ?_⟩) (by rw [flatD_len, hsz, hml]; omega) (flatD_one m) fun w' k hg' hu' => ?_
    · obtain ⟨gg, oo, e, hr⟩ := hm.lies h0
      exact ⟨_, e, fun j v hv => by rw [Addr.add_mid]; exact hr j v hv⟩
    · refine h w' k ⟨⟨by rw [flatD_len], .inr ⟨g, cc, (splice cur2.toList 0 (flatD m)).toArray, by rw [List.length_append], h1, unhide hg', ?_, h4, ?_, ?_⟩⟩, hf, by rw [hml]; exact hle.len⟩ hu'
      · rw [List.length_append, hml]; exact hc3
      · have : (splice cur2.toList 0 (flatD m)).length = cc * 2 := by
          unfold splice
          simp only [List.length_append, List.length_take, List.length_drop, flatD_len, hsz, hml]
          omega
        simpa using this
      · rw [List.toList_toArray]
        exact splice_take hml h6
end Go.Proofs.Ytajflgonhomkfaa
