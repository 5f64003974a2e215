/- What is wanted of the digest here, second part. -/
import Derived.Test.YtopabadnbelegaaQDga
namespace Go.Proofs.Ytopabadnbelegaa.D
section
open Go.RowKit
theorem infoU8 : (Try.prog.info? 5).map (fun i => (i.zero, i.size, i.bytes)) = some (some (.int .u8 0), 1, 1) := by kernel_rfl
end
section
open Go.RowKit
theorem bc_length (a : List UInt8) : (Lib.byteCells a).length = a.length := by simp [Lib.byteCells]
end
section
open Go.RowKit
/-- what a digit is -/
def dg (c : Nat) : Int := if 48 ≤ c ∧ c ≤ 57 then (c : Int) - 48 else if 97 ≤ c ∧ c ≤ 102 then (c : Int) - 87 else -1
end
section
open Go.RowKit
/-- a row of bytes of one's own -/
def OwnB (w wr : World) (v : Value) (bs : List UInt8) : Prop := wr.ownsRow w.heap.size 5 1 v bs.length (Lib.byteCells bs) ∧ Below w.heap.size w wr
theorem OwnB.block {w wr : World} {v : Value} {bs : List UInt8} (h : OwnB w wr v bs) {g : Nat} (hg : v.ownBlock = some g) : w.heap.size ≤ g := by
  rcases h.1.2 with ⟨hv, _⟩ | ⟨g', cap, cur, hv, hb, _⟩
  · rw [hv] at hg; cases hg
  · rw [hv] at hg; cases hg; exact hb
theorem OwnB.drewN {w wr : World} {v : Value} {bs : List UInt8} (h : OwnB w wr v bs) (n : Nat) : OwnB w (wr.drewN n) v bs := ⟨h.1, ⟨h.2.os, h.2.tape, h.2.output, h.2.size, h.2.block⟩⟩
end
section
open Go.RowKit
theorem be8_at (v j : Nat) (hj : j < 8) : (Sha.be8 v)[j]? = some (UInt8.ofNat (v / 256 ^ (7 - j))) := by
  have h : j = 0 ∨ j = 1 ∨ j = 2 ∨ j = 3 ∨ j = 4 ∨ j = 5 ∨ j = 6 ∨ j = 7 := by omega
  rcases h with rfl | rfl | rfl | rfl | rfl | rfl | rfl | rfl <;> first | rfl | simp [Sha.be8]
end
section
open Go.RowKit
/-- a row of bytes, all of its block -/
structure RowA (w wr : World) (X n : Nat) (f : Nat → Nat) (ts : Array Value) : Prop where
  size : ts.size = n
  at' : ∀ j, j < n → ts[j]? = some (.int .u8 (f j : Nat))
  row : wr.heap[X]? = some (.cells ts 5 (0, 0))
  le : w.heap.size ≤ X
  bel : Below w.heap.size w wr
theorem RowA.made (w : World) (n : Nat) : RowA w (w.alloc (.cells (madeCells #[.int .u8 0] n) 5)) w.heap.size n (fun _ => 0) (madeCells #[.int .u8 0] n) where
  size := by simp [madeCells]
  at' := fun j hj => by simp [madeCells, hj, Nat.mod_one]
  row := heap_alloc_new _ _
  le := Nat.le_refl _
  bel := (Below.refl _ _).alloc (Nat.le_refl _) _
theorem RowA.cell {w wr : World} {X n : Nat} {f : Nat → Nat} {ts : Array Value} (h : RowA w wr X n f ts) {j : Nat} (hj : j < n) : wr.cell? ⟨X, j, none⟩ = some (.int .u8 (f j : Nat)) := by
  simp [World.cell?, h.row, h.at' j hj]
theorem RowA.frozen {w wr : World} {X n : Nat} {f : Nat → Nat} {ts : Array Value} (h : RowA w wr X n f ts) (j : Nat) : wr.frozen? ⟨X, j, none⟩ = false := by
  simp [World.frozen?, h.row]
theorem RowA.upd {w wr : World} {X n k : Nat} {f f' : Nat → Nat} {ts : Array Value} (h : RowA w wr X n f ts) (v : Value) (hv : v = .int .u8 (f' k : Nat)) (hk : k < n) (hf : ∀ j, j < n → j ≠ k → f' j = f j) : RowA w (wr.setCell ⟨X, k, none⟩ v) X n f' (ts.setIfInBounds k v) := by
  subst hv
  refine ⟨by simpa using h.size, ?_, heapCell_same h.row _ _, h.le, belowCell h.bel h.le _⟩
  intro j hj
  rw [Array.getElem?_setIfInBounds]
  by_cases hjk : k = j
  · subst hjk; rw [if_pos rfl, if_pos (by rw [h.size]; exact hk)]
  · rw [if_neg hjk, hf j hj (fun e => hjk e.symm)]; exact h.at' j hj
theorem RowA.own {w wr : World} {X n : Nat} {f : Nat → Nat} {ts : Array Value} (h : RowA w wr X n f ts) (hn : n ≤ maxLen) (bs : List UInt8) (hl : bs.length = n) (hb : ∀ j, j < n → f j = (bs.getD j 0).toNat) : OwnB w wr (.slice (some ⟨X, 0, none⟩) n n) bs := by
  have e : ts.toList = Lib.byteCells bs := by
    apply List.ext_getElem?
    intro j
    by_cases hj : j < n
    · have h1 := h.at' j hj
      rw [Array.getElem?_toList, h1, hb j hj]
      have : j < bs.length := by omega
      simp [Lib.byteCells, this]
    · rw [List.getElem?_eq_none (by rw [Array.length_toList, h.size]; omega), List.getElem?_eq_none (by rw [bc_length]; omega)]
  subst hl
  refine ⟨⟨by rw [bc_length]; simp, .inr ⟨X, bs.length, ts, rfl, h.le, h.row, Nat.le_refl _, hn, by rw [h.size]; simp, ?_⟩⟩, h.bel⟩
  rw [← e, List.take_of_length_le (by rw [Array.length_toList, h.size]; simp)]
/-- the bytes of the fill, m bytes of the length told -/
def fb (B L m i : Nat) : Nat := if i = 0 then 128 else if L - 1 - i < m then B / 256 ^ (L - 1 - i) % 256 else 0
theorem fb_zero (B L i : Nat) (h : i ≠ 0) : fb B L 0 i = 0 := by unfold fb; rw [if_neg h, if_neg (by omega)]
theorem fb_done (B z m i : Nat) (hi : i < z + 9) (h0 : B / 256 ^ m = 0) (hm : m ≤ 8) : fb B (z + 9) m i = ((128 :: (List.replicate z 0 ++ Sha.be8 B) : List UInt8).getD i 0).toNat := by
  unfold fb
  by_cases hi0 : i = 0
  · subst hi0; rfl
  · rw [if_neg hi0]
    obtain ⟨j, rfl⟩ : ∃ j, i = j + 1 := ⟨i - 1, by omega⟩
    rw [List.getD_cons_succ, List.getD_eq_getElem?_getD]
    by_cases hz : j < z
    · rw [if_neg (by omega), List.getElem?_append_left (by simpa using hz)]
      simp [hz]
    · rw [List.getElem?_append_right (by simpa using Nat.le_of_not_lt hz), List.length_replicate, be8_at B (j - z) (by omega), Option.getD_some]
      have e : z + 9 - 1 - (j + 1) = 7 - (j - z) := by omega
      rw [e]
      by_cases h7 : 7 - (j - z) < m
      · rw [if_pos h7]; simp
      · rw [if_neg h7]
        have : B / 256 ^ (7 - (j - z)) = 0 := by
          have hp : 256 ^ m ≤ 256 ^ (7 - (j - z)) := Nat.pow_le_pow_right (by decide) (by omega)
          have hlt : B < 256 ^ m := by
            rcases Nat.div_eq_zero_iff.1 h0 with h | h
            · exact absurd h (Nat.pos_iff_ne_zero.1 (Nat.pow_pos (by decide)))
            · exact h
          exact Nat.div_eq_of_lt (Nat.lt_of_lt_of_le hlt hp)
        rw [this]; rfl
set_option maxRecDepth 100000 in
set_option maxHeartbeats 1000000 in
theorem dFill (n : Nat) (w : World) :
    Calls Try.prog 86 #[.int .u64 n] w fun e w' => ∃ v, e = .returned v ∧ OwnB w w' v (Sha.fill n) := by
  obtain ⟨z, hz⟩ : ∃ z, z = (119 - n % 64) % 64 := ⟨_, rfl⟩
  obtain ⟨B, hB⟩ : ∃ B, B = 8 * n % 18446744073709551616 := ⟨_, rfl⟩
  obtain ⟨L, hL⟩ : ∃ L, L = z + 9 := ⟨_, rfl⟩
  have hz1 : (55 - (n : Int)) % 18446744073709551616 % 64 = (z : Int) := by omega
  have hz2 : IntKind.u64.wrap (55 - (n : Int)) % 64 = (z : Int) := by rw [IntKind.wrap_u64]; exact hz1
  have hL1 : (z : Int) + 9 = (L : Int) := by omega
  have hz3 : (IntKind.u64.wrap (55 - (n : Int))).tmod 64 = (z : Int) := by rw [Int.tmod_eq_emod_of_nonneg (by rw [IntKind.wrap_u64]; omega)]; exact hz2
  have hLw : IntKind.u64.wrap (L : Int) = (L : Int) := by rw [IntKind.wrap_u64]; omega
  have hB1 : (n : Int) * 8 % 18446744073709551616 = (B : Int) := by omega
  have hB2 : IntKind.u64.wrap ((n : Int) * 8) = (B : Int) := by rw [IntKind.wrap_u64]; exact hB1
  have hBl : B < 18446744073709551616 := by omega
  have hL72 : L ≤ 72 := by omega
  have hL9 : 9 ≤ L := by omega
  have hz64 : z < 64 := by omega
  have HF : Hid (Sha.fill n = 128 :: (List.replicate z 0 ++ Sha.be8 B)) := by
    show Sha.fill n = _
    rw [Sha.fill, ← hz, ← hB]
  have HL := hide hL
  clear hz hB hL
  have hmk := run_make_row' (P := Try.prog) 81 5 (.int .u8 0) 1 Try.underlying81 infoU8 rfl .u64 .u64 L (by omega) (by omega)
  have HR := hide (RowA.made w L)
  have hc0 : (w.alloc (.cells (madeCells #[.int .u8 0] L) 5)).cell? ⟨w.heap.size, 0, none⟩ = some (.int .u8 ((0 : Nat) : Int)) := (unhide HR).cell (j := 0) (by omega)
  have hf0 := (unhide HR).frozen 0
  have HR2 : Hid (RowA w (w.alloc (.cells ((madeCells #[.int .u8 0] L).setIfInBounds 0 (.int .u8 128)) 5)) w.heap.size L (fb B L 0) ((madeCells #[.int .u8 0] L).setIfInBounds 0 (.int .u8 128))) := by
    have h := (unhide HR).upd (k := 0) (f' := fb B L 0) (.int .u8 128) rfl (by omega) (fun j _ hj => fb_zero B L j hj)
    exact ⟨h.size, h.at', heap_alloc_new _ _, Nat.le_refl _, (Below.refl _ _).alloc (Nat.le_refl _) _⟩
  have hL0 : (0 : Int) < (L : Int) := by omega
  go_enter Try.func86, Try.ntmps86
  go_wp2
  clear hmk hc0 hf0 hz1 hz2 hz3 hL1 hLw hB1 hB2
  go_loopw [5, 6] (fun x i wr => ∃ (m q : Nat), m ≤ 8 ∧ q + m + 1 = L ∧ x = .int .u64 (B / 256 ^ m : Nat) ∧ i = .int .i64 q ∧ Hid (∃ ts, RowA w wr w.heap.size L (fb B L m) ts)) (fun x _ _ => (RowKit.intOf x).toNat)
  case atStart => exact ⟨0, L - 1, Nat.zero_le _, by omega, by simp, by congr 1; omega, hide ⟨_, unhide HR2⟩⟩
  case round =>
    clear HR HR2
    obtain ⟨m, q, hm, hq, rfl, rfl, HI⟩ := hrel
    by_cases h0 : B / 256 ^ m = 0
    · have HD : Hid (∀ i, i < L → fb B L m i = ((Sha.fill n).getD i 0).toNat) := by
        intro i hi
        rw [show Sha.fill n = _ from unhide HF, unhide HL]
        exact fb_done B z m i (by have := unhide HL; omega) h0 hm
      have HLN : Hid ((Sha.fill n).length = L) := by
        show List.length _ = _
        rw [show Sha.fill n = _ from unhide HF, unhide HL]
        simp [Sha.be8]
      rw [h0]
      go_wp2
      go_ret
      obtain ⟨ts, h⟩ := unhide HI
      exact ⟨_, rfl, h.own (by unfold maxLen; omega) _ (unhide HLN) (unhide HD)⟩
    · have hm8 : m < 8 := by
        rcases Nat.lt_or_ge m 8 with h | h
        · exact h
        · exfalso
          apply h0
          have : m = 8 := by omega
          subst this
          omega
      obtain ⟨ts, hr⟩ := unhide HI
      have hc := hr.cell (j := q) (by omega)
      have hf := hr.frozen q
      have hqL : (q : Int) < (L : Int) := by omega
      have hX : B / 256 ^ m < 18446744073709551616 := Nat.lt_of_le_of_lt (Nat.div_le_self _ _) hBl
      have HD : Hid (B / 256 ^ m / 256 = B / 256 ^ (m + 1)) := by
        show B / 256 ^ m / 256 = B / 256 ^ (m + 1)
        rw [Nat.div_div_eq_div_mul, ← Nat.pow_succ]
      have HN := hide (fun v hv => hr.upd (k := q) (f' := fb B L (m + 1)) v hv (by omega) (fun j hjL hj => by
        unfold fb
        by_cases hj0 : j = 0
        · rw [if_pos hj0, if_pos hj0]
        · rw [if_neg hj0, if_neg hj0]
          by_cases hjm : L - 1 - j < m
          · rw [if_pos hjm, if_pos (by omega)]
          · rw [if_neg hjm, if_neg (by omega)]))
      have hq0 : q ≠ 0 := by omega
      have HVV : Hid (fb B L (m + 1) q = B / 256 ^ m % 256) := by
        show fb B L (m + 1) q = _
        unfold fb
        rw [if_neg hq0, if_pos (by omega), show L - 1 - q = m from by omega]
      have HQ := hide hq
      have hq1 : 1 ≤ q := by omega
      have hqi : (1 : Int) ≤ (q : Int) := by omega
      clear hr hq HI
      generalize B / 256 ^ m = X at *
      obtain ⟨XI, hXe⟩ : ∃ XI : Int, XI = (X : Int) := ⟨_, rfl⟩
      rw [← hXe]
      have hXi : XI < 18446744073709551616 := by omega
      have hXp : 0 < XI := by omega
      have HXE := hide hXe
      clear hX h0 hBl hXe
      go_wp2
      go_roundw
      case rel =>
        have hq := unhide HQ
        refine ⟨m + 1, q - 1, by omega, by omega, by rw [← unhide HD, unhide HXE]; rfl, by congr 1; omega, hide ⟨_, unhide HN _ ?_⟩⟩
        rw [unhide HVV, unhide HXE]
        congr 1
      case measure => simp only [RowKit.intOf]; omega
end
section
open Go.RowKit
/-- what is done to the block g, and to new ones, alone -/
structure U1 (w w' : World) (g : Nat) : Prop where
  os : w'.os = w.os
  tape : w'.tape = w.tape
  output : w'.output = w.output
  size : w.heap.size ≤ w'.heap.size
  block : ∀ k, k < w.heap.size → k ≠ g → w'.heap[k]? = w.heap[k]?
theorem U1.refl (w : World) (g : Nat) : U1 w w g := ⟨rfl, rfl, rfl, Nat.le_refl _, fun _ _ _ => rfl⟩
theorem U1.set {w w' : World} {g : Nat} (h : U1 w w' g) (k : Nat) (v : Value) : U1 w (w'.setCell ⟨g, k, none⟩ v) g :=
  ⟨h.os, h.tape, h.output, by simpa [World.setCell] using h.size, fun q hq hn => (Deep.blk_setCell_other w' ⟨g, k, none⟩ v q hn).trans (h.block q hq hn)⟩
end
section
open Go.RowKit
section
variable {P : Program} {ops : Array Oper} {Q : Exit → Act → World → Prop} {md : Region.Mode}
theorem wanted_none {o : Oper} {ys : Nat → Option Bool} (hg : o.guard = none) : Region.wanted o ys = true := by simp [Region.wanted, hg]
/-- one that yields whatever the world is, is taken first -/
theorem wpAny_take' (i : Nat) (d : Tmp) (v : Value) {oi : Oper} {fuel : Nat} {listed : Array Bool} {a : Act} {w : World} (hi : ops[i]? = some oi) (hd : oi.dst = some d)
    (hs : Region.noSelect ops = true) (hf : Region.free md ops listed i = true) (hr : (Region.ready md ops listed).contains i = true)
    (hQ : ∀ c a w, Q (.panic c) (a.put (some d) v) w → Q (.panic c) a w) (hg : oi.guard = none) (hy : ∀ u, (execOp a.eval oi).run P u = .ok (.value v) u)
    (h : wpAny P md ops Q fuel (listed.setIfInBounds i true) (a.put (some d) v) w) : wpAny P md ops Q (fuel + 1) listed a w :=
  wpAny_take hi hs hf hr (by rw [hd]; exact hQ) (.inl ⟨wanted_none hg, hy⟩) (by rw [hd]; exact h)
/-- one alone may come up -/
theorem wpAny_one {i : Nat} {o : Oper} {fuel : Nat} {listed : Array Bool} {a : Act} {w : World} (hr : Region.ready md ops listed = [i]) (ho : ops[i]? = some o) (hg : o.guard = none)
    (h : ∀ K : Act → World → Prop, (∀ a w, wpAny P md ops Q fuel (listed.setIfInBounds i true) a w → K a w) → Oper.wp P o a w K Q) : wpAny P md ops Q (fuel + 1) listed a w := by
  refine wpAny_ready hr (by simp) (AllReady.cons ho (fun K hK => ?_) AllReady.nil)
  rw [if_pos (by simp [Region.wanted, hg])]
  exact h K hK
/-- two that only read: their order is not seen -/
theorem wpAny_pair {i j : Nat} {oi oj : Oper} {vi vj : Value} {fuel : Nat} {listed : Array Bool} {a : Act} {w : World}
    (hr : Region.ready md ops listed = [i, j]) (hri : Region.ready md ops (listed.setIfInBounds i true) = [j]) (hrj : Region.ready md ops (listed.setIfInBounds j true) = [i])
    (hl : (listed.setIfInBounds j true).setIfInBounds i true = (listed.setIfInBounds i true).setIfInBounds j true)
    (hoi : ops[i]? = some oi) (hoj : ops[j]? = some oj) (hgi : oi.guard = none) (hgj : oj.guard = none)
    (di dj : Tmp) (hd : di ≠ dj)
    (hi : ∀ K : Act → World → Prop, K (a.put (some di) vi) w → Oper.wp P oi a w K Q) (hi' : ∀ K : Act → World → Prop, K ((a.put (some dj) vj).put (some di) vi) w → Oper.wp P oi (a.put (some dj) vj) w K Q)
    (hj : ∀ K : Act → World → Prop, K (a.put (some dj) vj) w → Oper.wp P oj a w K Q) (hj' : ∀ K : Act → World → Prop, K ((a.put (some di) vi).put (some dj) vj) w → Oper.wp P oj (a.put (some di) vi) w K Q)
    (h : wpAny P md ops Q fuel ((listed.setIfInBounds i true).setIfInBounds j true) ((a.put (some di) vi).put (some dj) vj) w) : wpAny P md ops Q (fuel + 2) listed a w := by
  have hc : (a.put (some dj) vj).put (some di) vi = (a.put (some di) vi).put (some dj) vj := by
    simp only [Act.put]
    rw [Array.setIfInBounds_comm _ _ (Ne.symm hd)]
  refine wpAny_ready hr (by simp) (AllReady.cons hoi (fun K hK => ?_) (AllReady.cons hoj (fun K hK => ?_) AllReady.nil))
  · rw [if_pos (wanted_none hgi)]
    exact hi K (hK _ _ (wpAny_one hri hoj hgj fun K' hK' => hj' K' (hK' _ _ h)))
  · rw [if_pos (wanted_none hgj)]
    exact hj K (hK _ _ (wpAny_one hrj hoi hgi fun K' hK' => hi' K' (hK' _ _ (by rw [hc, hl]; exact h))))
theorem wp_load_arr {op : Oper} {a : Act} {w : World} {K : Act → World → Prop} (ty : TypeId) (x : Operand) (ho : op.op = .load ty x) (d : Option Tmp) (hd : op.dst = d)
    (b o : Nat) (hx : a.eval x = .pointer (some ⟨b, o, none⟩)) (cs : Array Value) (n : Nat) (el : TypeId) (hc : w.rangeAt b o cs.toList)
    (hu : P.underlying ty = some (.array n el)) (hi : (P.info? ty).map (·.size) = some cs.size)
    (h : K (a.put d (.agg cs)) w) : op.wp P a w K Q :=
  wp_load_mid ty x ho b o hx cs.toList _ hc hu rfl (by simpa using hi) (by rw [hd]; simpa using h)
theorem wp_store_arr {op : Oper} {a : Act} {w : World} {K : Act → World → Prop} (ty : TypeId) (x y : Operand) (ho : op.op = .store ty x y) (hd : op.dst = none)
    (b o : Nat) (cells : Array Value) (hx : a.eval x = .pointer (some ⟨b, o, none⟩)) (hy : a.eval y = .agg cells)
    (ht : w.there b o cells.size) (hi : (P.info? ty).map (·.size) = some cells.size) (h1 : cells.all (·.oneCell') = true)
    (h : K a (w.setCells b o cells.toList)) : op.wp P a w K Q :=
  wp_store_mid ty x y ho b o cells hx hy ht hi h1 (by rw [hd]; exact h)
end
end
section
open Go.RowKit
theorem U1.trans {a b c : World} {g : Nat} (h : U1 a b g) (k : U1 b c g) : U1 a c g :=
  ⟨k.os.trans h.os, k.tape.trans h.tape, k.output.trans h.output, Nat.le_trans h.size k.size, fun q hq hn => (k.block q (Nat.lt_of_lt_of_le hq h.size) hn).trans (h.block q hq hn)⟩
theorem U1.below' {a b : World} {g : Nat} (h : Below a.heap.size a b) : U1 a b g := ⟨h.os, h.tape, h.output, h.size, fun q hq _ => h.block q hq⟩
theorem U1.toBelow {w w' : World} {g B : Nat} (h : U1 w w' g) (hB : B ≤ w.heap.size) (hg : B ≤ g) : Below B w w' := ⟨h.os, h.tape, h.output, h.size, fun k hk => h.block k (by omega) (by omega)⟩
theorem U1.then_new {w u u' : World} {h b : Nat} (k : U1 w u h) (k' : U1 u u' b) (hb : w.heap.size ≤ b) : U1 w u' h :=
  ⟨k'.os.trans k.os, k'.tape.trans k.tape, k'.output.trans k.output, Nat.le_trans k.size k'.size, fun q hq hn => (k'.block q (Nat.lt_of_lt_of_le hq k.size) (by omega)).trans (k.block q hq hn)⟩
theorem U1.drewN {a b : World} {g : Nat} (h : U1 a b g) (n : Nat) : U1 a (b.drewN n) g := ⟨h.os, h.tape, h.output, h.size, h.block⟩
theorem U1.drew {a b : World} {g : Nat} (h : U1 a b g) : U1 a b.drew g := ⟨h.os, h.tape, h.output, h.size, h.block⟩
theorem U1.row {w : World} {g : Nat} (cs : Array Value) : U1 w (w.setRow g cs) g := ⟨rfl, rfl, rfl, by simp [World.setRow], fun k _ hn => heapRow_other w g k cs hn⟩
/-- cells laid over those of a block, the block known whole -/
theorem heap_setCells {g : Nat} {t : TypeId} {fr : Nat × Nat} : ∀ (vs : List Value) (o : Nat) (w : World) (cur : List Value), w.heap[g]? = some (.cells cur.toArray t fr) → o + vs.length ≤ cur.length →
    (w.setCells g o vs).heap[g]? = some (.cells (splice cur o vs).toArray t fr)
  | [], o, w, cur, h, _ => by simpa [World.setCells, splice] using h
  | v :: r, o, w, cur, h, hl => by
    simp only [List.length_cons] at hl
    rw [World.setCells]
    have h1 := heapCell_same h o v
    rw [List.setIfInBounds_toArray] at h1
    rw [heap_setCells r (o + 1) _ (cur.set o v) h1 (by simp; omega)]
    congr 2
    unfold splice
    rw [List.take_set, List.take_succ_eq_append_getElem (by omega)]
    simp only [List.length_cons]
    rw [List.set_append_right _ _ (by simp; omega), List.drop_set_of_lt (by omega)]
    have e : o - (cur.take o).length = 0 := by simp; omega
    rw [e, show o + 1 + r.length = o + (r.length + 1) from by omega]
    simp
theorem U1.cells {w : World} {g : Nat} : ∀ (vs : List Value) (o : Nat) (w' : World), U1 w w' g → U1 w (w'.setCells g o vs) g
  | [], _, _, h => h
  | v :: r, o, _, h => U1.cells r (o + 1) _ (h.set o v)
/-- a Hash's cells -/
def HC (s : Sha.St) (lf : List UInt8) (n : Nat) : List Value := (St8 s).toList ++ (Lib.byteCells lf ++ [.int .u64 (n : Int)])
theorem byteCells_len (l : List UInt8) : (Lib.byteCells l).length = l.length := by simp [Lib.byteCells]
theorem byteCells_at (l : List UInt8) (j : Nat) (hj : j < l.length) : (Lib.byteCells l)[j]? = some (.int .u8 (l[j].toNat : Int)) := by simp [Lib.byteCells, hj]
theorem byteCells_one (l : List UInt8) : ∀ v ∈ Lib.byteCells l, v.oneCell' = true := by
  intro v hv
  simp only [Lib.byteCells, List.mem_map] at hv
  obtain ⟨x, _, rfl⟩ := hv
  rfl
theorem HC_len (s : Sha.St) (lf : List UInt8) (n : Nat) : (HC s lf n).length = lf.length + 9 := by
  simp [HC, byteCells_len, St8]
theorem HC_st (s : Sha.St) (lf : List UInt8) (n j : Nat) (hj : j < 8) : (HC s lf n)[j]? = (St8 s).toList[j]? := by
  rw [HC, List.getElem?_append_left (by simpa [St8] using hj)]
theorem HC_lf (s : Sha.St) (lf : List UInt8) (n j : Nat) (hj : j < lf.length) : (HC s lf n)[8 + j]? = (Lib.byteCells lf)[j]? := by
  rw [HC, List.getElem?_append_right (by simp [St8]), List.getElem?_append_left (by simp [St8, byteCells_len]; omega)]
  congr 1
  simp [St8]
theorem HC_n (s : Sha.St) (lf : List UInt8) (n : Nat) : (HC s lf n)[8 + lf.length]? = some (.int .u64 (n : Int)) := by
  rw [HC, List.getElem?_append_right (by simp [St8]), List.getElem?_append_right (by simp [St8, byteCells_len])]
  have e : 8 + lf.length - (St8 s).toList.length - (Lib.byteCells lf).length = 0 := by simp [St8, byteCells_len]
  rw [e]; rfl
structure HA (u : World) (h : Nat) (s : Sha.St) (lf : List UInt8) (n : Nat) : Prop where
  row : u.heap[h]? = some (.cells (HC s lf n).toArray 129 (0, 0))
  len : lf.length = 64
theorem HA.lt {u : World} {h : Nat} {s : Sha.St} {lf : List UInt8} {n : Nat} (k : HA u h s lf n) : h < u.heap.size := (Array.getElem?_eq_some_iff.1 k.row).1
theorem HA.keep {u u' : World} {h : Nat} {s : Sha.St} {lf : List UInt8} {n : Nat} (k : HA u h s lf n) (e : u'.heap[h]? = u.heap[h]?) : HA u' h s lf n := ⟨e.trans k.row, k.len⟩
theorem HA.below {u u' : World} {h : Nat} {s : Sha.St} {lf : List UInt8} {n : Nat} (k : HA u h s lf n) (hb : Below u.heap.size u u') : HA u' h s lf n := k.keep (hb.block h k.lt)
theorem HA.cnt {u : World} {h : Nat} {s : Sha.St} {lf : List UInt8} {n : Nat} (k : HA u h s lf n) : u.cell? ⟨h, 72, none⟩ = some (.int .u64 (n : Int)) := by
  have := HC_n s lf n
  rw [k.len] at this
  simp only [World.cell?, k.row, List.getElem?_toArray]
  exact this
theorem HA.frozen {u : World} {h : Nat} {s : Sha.St} {lf : List UInt8} {n : Nat} (k : HA u h s lf n) (j : Nat) : u.frozen? ⟨h, j, none⟩ = false := by simp [World.frozen?, k.row]
theorem HA.st {u : World} {h : Nat} {s : Sha.St} {lf : List UInt8} {n : Nat} (k : HA u h s lf n) : u.rangeAt h 0 (St8 s).toList := by
  intro j v hv
  have hj : j < 8 := (List.getElem?_eq_some_iff.1 hv).1
  rw [← HC_st s lf n j hj] at hv
  simp only [World.cell?, k.row, List.getElem?_toArray, Nat.zero_add]
  exact hv
theorem HA.lf {u : World} {h : Nat} {s : Sha.St} {lf : List UInt8} {n : Nat} (k : HA u h s lf n) : u.rangeAt h 8 (Lib.byteCells lf) := by
  intro j v hv
  have hj : j < lf.length := by have := (List.getElem?_eq_some_iff.1 hv).1; rwa [byteCells_len] at this
  rw [← HC_lf s lf n j hj] at hv
  simp only [World.cell?, k.row, List.getElem?_toArray]
  exact hv
theorem HA.there {u : World} {h : Nat} {s : Sha.St} {lf : List UInt8} {n : Nat} (k : HA u h s lf n) : u.there h 0 8 := by
  intro j hj
  exact ⟨by rw [(k.st) j _ (List.getElem?_eq_getElem (by simpa [St8] using hj))]; rfl, k.frozen _⟩
theorem HC_set (s : Sha.St) (lf : List UInt8) (n m : Nat) : (HC s lf n).set (8 + lf.length) (.int .u64 (m : Int)) = HC s lf m := by
  unfold HC
  rw [List.set_append_right _ _ (by simp [St8]), List.set_append_right _ _ (by simp [St8, byteCells_len])]
  have e : 8 + lf.length - (St8 s).toList.length - (Lib.byteCells lf).length = 0 := by simp [St8, byteCells_len]
  rw [e]; rfl
theorem HA.setCnt {u : World} {h : Nat} {s : Sha.St} {lf : List UInt8} {n : Nat} (k : HA u h s lf n) (m : Nat) : HA (u.setCell ⟨h, 72, none⟩ (.int .u64 (m : Int))) h s lf m := by
  refine ⟨?_, k.len⟩
  have h1 := heapCell_same k.row 72 (.int .u64 (m : Int))
  rw [List.setIfInBounds_toArray, show 72 = 8 + lf.length from by rw [k.len], HC_set] at h1
  rw [show 72 = 8 + lf.length from by rw [k.len]]
  exact h1
theorem HC_splice_st (s t : Sha.St) (lf : List UInt8) (n : Nat) : splice (HC s lf n) 0 (St8 t).toList = HC t lf n := by
  unfold splice HC
  rw [List.take_zero, List.nil_append, show 0 + (St8 t).toList.length = (St8 s).toList.length from rfl, List.drop_left]
theorem HA.setSt {u : World} {h : Nat} {s : Sha.St} {lf : List UInt8} {n : Nat} (k : HA u h s lf n) (t : Sha.St) : HA (u.setCells h 0 (St8 t).toList) h t lf n := by
  refine ⟨?_, k.len⟩
  rw [heap_setCells _ 0 u _ k.row (by rw [HC_len, k.len]; simp [St8]), HC_splice_st]
theorem HC_splice_lf (s : Sha.St) (lf p : List UInt8) (n r : Nat) (h : r + p.length ≤ lf.length) : splice (HC s lf n) (8 + r) (Lib.byteCells p) = HC s (splice lf r p) n := by
  have e8 : (St8 s).toList.length = 8 := rfl
  unfold splice HC
  simp only [byteCells_len]
  rw [List.take_append, List.take_of_length_le (by omega), e8, show 8 + r - 8 = r from by omega, List.take_append_of_le_length (by rw [byteCells_len]; omega)]
  rw [List.drop_append, List.drop_of_length_le (by omega), List.nil_append, e8, show 8 + r + p.length - 8 = r + p.length from by omega, List.drop_append_of_le_length (by rw [byteCells_len]; omega)]
  simp [Lib.byteCells, List.map_take, List.map_drop]
/-- a Hash of these bytes -/
structure Hs (u : World) (h : Nat) (l : List UInt8) : Prop where
  at' : ∃ lf, HA u h (Sha.absorb l) lf l.length ∧ lf.take (l.length % 64) = Sha.tail l
theorem Hs.lt {u : World} {h : Nat} {l : List UInt8} (k : Hs u h l) : h < u.heap.size := by obtain ⟨lf, k, _⟩ := k.at'; exact k.lt
theorem Hs.keep {u u' : World} {h : Nat} {l : List UInt8} (k : Hs u h l) (e : u'.heap[h]? = u.heap[h]?) : Hs u' h l := by
  obtain ⟨lf, k, hl⟩ := k.at'
  exact ⟨lf, k.keep e, hl⟩
theorem Hs.below {u u' : World} {h : Nat} {l : List UInt8} (k : Hs u h l) (hb : Below u.heap.size u u') : Hs u' h l := k.keep (hb.block h k.lt)
theorem Hs.u1 {u u' : World} {h g : Nat} {l : List UInt8} (k : Hs u h l) (hb : U1 u u' g) (hne : h ≠ g) : Hs u' h l := k.keep (hb.block h k.lt hne)
theorem Ok.blocks {s : Sha.St} (h : Ok s) (n : Nat) (l : List UInt8) : Ok (Sha.blocks n s l) := by
  induction n generalizing s l with
  | zero => exact h
  | succ n ih => exact ih (Ok.mix _ _) _
theorem Ok.absorb (l : List UInt8) : Ok (Sha.absorb l) := Ok.start.blocks _ _
theorem cell_u1 {w w' : World} {h g o : Nat} {v : Value} (hu : U1 w w' h) (hne : g ≠ h) (hc : w.cell? ⟨g, o, none⟩ = some v) : w'.cell? ⟨g, o, none⟩ = some v := by
  rw [World.cell?_of_block (w := w) (a := ⟨g, o, none⟩) (hu.block _ (World.block_lt_of_cell? w _ hc) hne)]; exact hc
theorem splice_len {α : Type} (L : List α) (off : Nat) (cs : List α) (h : off + cs.length ≤ L.length) : (splice L off cs).length = L.length := length_splice L off cs h
theorem splice_take {α : Type} (L : List α) (off : Nat) (cs : List α) (h : off + cs.length ≤ L.length) : (splice L off cs).take (off + cs.length) = L.take off ++ cs := by
  unfold splice
  rw [← List.append_assoc, List.take_append_of_le_length (by simp; omega)]
  exact List.take_of_length_le (by simp; omega)
/-- copy: the block g alone is changed -/
theorem copy_u1 {P : Program} {w : World} (dT sT ty elem : TypeId) (hu : P.underlying dT = some (.slice elem)) (hsz : (P.info? elem).map (·.size) = some 1)
    (dp sp : Option Addr) (dLen dCap sLen sCap : Nat)
    (g off : Nat) (cur : List Value) (t : TypeId) (hg : w.heap[g]? = some (.cells cur.toArray t (0, 0))) (cs : List Value) (hn : cs.length = Nat.min sLen dLen)
    (hpos : 0 < cs.length → dp = some ⟨g, off, none⟩ ∧ ∃ ad, sp = some ad ∧ ∀ j v, cs[j]? = some v → w.cell? (ad.add j) = some v)
    (hfit : off + cs.length ≤ cur.length) (h1 : ∀ v ∈ cs, v.oneCell' = true) :
    ∃ w', (Builtin.copy_ #[dT, sT] ty #[.slice dp dLen dCap, .slice sp sLen sCap]).run P w = .ok (goInt cs.length) w' ∧ w'.heap[g]? = some (.cells (splice cur off cs).toArray t (0, 0)) ∧ U1 w w' g := by
  by_cases h0 : cs.length = 0
  · obtain rfl : cs = [] := List.eq_nil_of_length_eq_zero h0
    exact ⟨w, run_copy_none (P := P) w dT sT ty elem dp sp dLen dCap sLen sCap hu hsz (by simpa using hn.symm), by simpa [splice] using hg, U1.refl _ _⟩
  · obtain ⟨rfl, ad, rfl, hsrc⟩ := hpos (by omega)
    exact ⟨_, run_copy_row (P := P) w dT sT ty elem g off dLen dCap ad sLen sCap cur.toArray t cs hu hsz hg hn hsrc (by simpa using hfit) h1, by simpa [splice] using setRow_heap w g _ _ t _ hg, U1.row _⟩
theorem wpList_store_u1 {P : Program} {ops : Array Oper} {rest : List Oper} {o : Oper} {a : Act} {w : World} {Q : Exit → Act → World → Prop} (hgd : o.guard = none) (ty : TypeId) (x y : Operand) (ho : o.op = .store ty x y)
    (g : Nat) (cells : Array Value) (hx : a.eval x = .pointer (some ⟨g, 0, none⟩)) (hy : a.eval y = .agg cells)
    (t : TypeId) (old : Array Value) (hg : w.heap[g]? = some (.cells old t (0, 0))) (hi : (P.info? ty).map (·.size) = some cells.size)
    (hold : old.size = cells.size) (h1 : cells.all (·.oneCell') = true)
    (h : ∀ w', Hid (w'.heap[g]? = some (.cells cells t (0, 0))) → Hid (U1 w w' g) → wpList P ops Q rest (a.put o.dst undef) w') : wpList P ops Q (o :: rest) a w :=
  wpList_store_row hgd ty x y ho g cells hx hy t old hg hi hold h1 (h _ (heapRow_same hg _) (U1.row _))
theorem U1.fresh {w w' : World} {o : Obj} (h : U1 (w.alloc o) w' w.heap.size) : Below w.heap.size w w' :=
  ⟨h.os, h.tape, h.output, by have := h.size; simp at this; omega, fun k hk => by
    rw [h.block k (by simp; omega) (by omega), Deep.blk_alloc_lt _ _ _ hk]⟩
/-- bytes of a row are copied into what fills no block yet -/
theorem copyLeft {w : World} {h r n : Nat} {s : Sha.St} {lf q : List UInt8} (ha : HA w h s lf n) (ao : Option Addr) (m cap : Nat) (hq : q.length = Nat.min m (64 - r)) (hr : r < 64)
    (hsrc : 0 < q.length → ∃ ad, ao = some ad ∧ ∀ (j : Nat) (hj : j < q.length), w.cell? (ad.add j) = some (.int .u8 (q[j].toNat : Int))) :
    ∃ w', (Builtin.copy_ #[81, 81] 3 #[.slice (some ⟨h, 8 + r, none⟩) (64 - r) (64 - r), .slice ao m cap]).run Try.prog w = .ok (goInt q.length) w' ∧ HA w' h s (splice lf r q) n ∧ U1 w w' h := by
  have hl := ha.len
  have hq2 : q.length ≤ 64 - r := by rw [hq]; exact Nat.min_le_right _ _
  have infoU : (Try.prog.info? 5).map (·.size) = some 1 := by kernel_rfl
  obtain ⟨w', h1, h2, h3⟩ := copy_u1 (P := Try.prog) (w := w) 81 81 3 5 Try.underlying81 infoU (some ⟨h, 8 + r, none⟩) ao (64 - r) (64 - r) m cap h (8 + r) (HC s lf n) 129 ha.row (Lib.byteCells q)
    (by rw [byteCells_len]; exact hq)
    (fun hp => by
      obtain ⟨ad, h1, h2⟩ := hsrc (by rwa [byteCells_len] at hp)
      refine ⟨rfl, ad, h1, fun j v hv => ?_⟩
      have hj : j < q.length := by have := (List.getElem?_eq_some_iff.1 hv).1; rwa [byteCells_len] at this
      rw [byteCells_at q j hj] at hv
      rw [h2 j hj, hv])
    (by rw [HC_len, byteCells_len]; omega) (byteCells_one q)
  rw [byteCells_len] at h1
  refine ⟨w', h1, ⟨?_, ?_⟩, h3⟩
  · rw [h2, HC_splice_lf _ _ _ _ _ (by omega)]
  · rw [splice_len _ _ _ (by omega)]; exact hl
def lfB (lf : List UInt8) (i : Nat) : Nat := (lf.getD i 0).toNat
theorem lfB_lt (lf : List UInt8) (i : Nat) : lfB lf i < 256 := UInt8.toNat_lt _
theorem mix_lfB (s : Sha.St) (lf : List UInt8) : Sha.add s (Sha.rnd (lfB lf) s 64) = Sha.mix s lf := rfl
theorem lf_is8 (lf : List UInt8) (h : lf.length = 64) : Is8 (Lib.byteCells lf).toArray 64 (lfB lf) := by
  refine ⟨by simp [byteCells_len, h], fun i hi => ?_⟩
  rw [List.getElem?_toArray, byteCells_at lf i (by omega)]
  simp [lfB, List.getD, List.getElem?_eq_getElem (show i < lf.length by omega)]
/-- where a row begins of which a front was cut off -/
def cutO (c i o : Nat) : Nat := if c = i then o else o + i
theorem cutO_lt {c i m o : Nat} (h : i < m) (hc : m ≤ c) : cutO c i o = o + i := by unfold cutO; rw [if_neg (by omega)]
theorem bytesUnd : Try.prog.underlying 81 = some (.slice (Try.prog.elem 81)) := by kernel_rfl
theorem bytesSize (W : World) : (sizeOf (Try.prog.elem 81)).run Try.prog W = .ok 1 W := by
  have h : (Try.prog.info? (Try.prog.elem 81)).map (·.size) = some 1 := by kernel_rfl
  cases hq : Try.prog.info? (Try.prog.elem 81) with
  | none => simp [hq] at h
  | some i => simp [sizeOf, typeInfo, hq] at h ⊢; exact h
theorem cutFrom (g o m c i : Nat) (hi : i ≤ m) (W : World) : (Instr.slice 81 (.slice (some ⟨g, o, none⟩) m c) (some (.int .i64 (i : Int))) none none).run Try.prog W = .ok (.slice (some ⟨g, cutO c i o, none⟩) (m - i) (c - i)) W := by
  rw [run_slice_l W 81 _ _ _ bytesUnd .i64 i (by omega) (by omega), bytesSize]
  simp only [Result.andThen_ok, sliced, Int.toNat_natCast, Nat.mul_one]
  unfold cutO
  split
  · rfl
  · rw [Option.map_some, Addr.add_mid]
theorem cutTo (g o m c i : Nat) (hi : i ≤ c) (h0 : 0 < c) (W : World) : (Instr.slice 81 (.slice (some ⟨g, o, none⟩) m c) none (some (.int .i64 (i : Int))) none).run Try.prog W = .ok (.slice (some ⟨g, o, none⟩) i c) W := by
  rw [run_slice_h W 81 _ _ _ bytesUnd .i64 i (by omega) (by omega), bytesSize]
  simp only [Result.andThen_ok, sliced, Int.toNat_natCast, Nat.mul_one, Nat.sub_zero]
  rw [if_neg (by omega), Option.map_some, Addr.add_mid]
  rfl
/-- while blocks are mixed in -/
structure WI (w u : World) (h tb g o : Nat) (p : List UInt8) (s : Sha.St) (lf : List UInt8) (n : Nat) : Prop where
  ha : HA u h s lf n
  tab : ∀ i, i < 64 → u.cell? ⟨tb, i, none⟩ = some (.int .u32 (Sha.K.getD i 0 : Nat))
  tlt : tb < u.heap.size
  tne : tb ≠ h
  src : ∀ (j : Nat) (hj : j < p.length), u.cell? ⟨g, o + j, none⟩ = some (.int .u8 (p[j].toNat : Int))
  gne : g ≠ h
  u1 : U1 w u h
theorem WI.drew {w u : World} {h tb g o : Nat} {p : List UInt8} {s : Sha.St} {lf : List UInt8} {n : Nat} (k : WI w u h tb g o p s lf n) : WI w u.drew h tb g o p s lf n :=
  ⟨k.ha.keep rfl, k.tab, k.tlt, k.tne, k.src, k.gne, k.u1.drew⟩
theorem WI.u1' {w u u' : World} {h tb g o : Nat} {p : List UInt8} {s t : Sha.St} {lf lf' : List UInt8} {n n' : Nat} (k : WI w u h tb g o p s lf n) (hu : U1 u u' h) (ha : HA u' h t lf' n') : WI w u' h tb g o p t lf' n' :=
  ⟨ha, fun i hi => cell_u1 hu k.tne (k.tab i hi), Nat.lt_of_lt_of_le k.tlt hu.size, k.tne, fun j hj => cell_u1 hu k.gne (k.src j hj), k.gne, k.u1.trans hu⟩
theorem WI.step {w u u' : World} {h tb g o : Nat} {p : List UInt8} {s : Sha.St} {lf : List UInt8} {n : Nat} (k : WI w u h tb g o p s lf n) (hb : Below u.heap.size u u') (t : Sha.St) : WI w (u'.setCells h 0 (St8 t).toList) h tb g o p t lf n := by
  have h1 : U1 u u' h := U1.below' hb
  exact k.u1' (U1.cells _ _ _ h1) ((k.ha.below hb).setSt t)
theorem WI.cut {w u : World} {h tb g o : Nat} {p : List UInt8} {s : Sha.St} {lf : List UInt8} {n : Nat} (k : WI w u h tb g o p s lf n) (c i : Nat) (hc : p.length ≤ c) : WI w u h tb g (cutO c i o) (p.drop i) s lf n :=
  ⟨k.ha, k.tab, k.tlt, k.tne, fun j hj => by
    rw [List.length_drop] at hj
    rw [cutO_lt (by omega) hc, List.getElem_drop, Nat.add_assoc]
    exact k.src (i + j) (by omega), k.gne, k.u1⟩
theorem WI.front {w u : World} {h tb g o : Nat} {p : List UInt8} {s : Sha.St} {lf : List UInt8} {n : Nat} (k : WI w u h tb g o p s lf n) (i : Nat) : u.rangeAt g o (Lib.byteCells (p.take i)) := by
  intro j v hv
  have hj : j < (p.take i).length := by have := (List.getElem?_eq_some_iff.1 hv).1; rwa [byteCells_len] at this
  rw [byteCells_at _ j hj, List.getElem_take] at hv
  rw [List.length_take] at hj
  rw [k.src j (by omega), hv]
def sliceLen : Value → Nat
  | .slice _ n _ => n
  | _ => 0
end
section
open Go.RowKit
theorem b64Len : Try.prog.arrayLen 127 = 64 := by kernel_rfl
theorem b64Und : Try.prog.underlying 127 = some (.array (Try.prog.arrayLen 127) (Try.prog.elem 127)) := by kernel_rfl
theorem b64Size (W : World) : (sizeOf (Try.prog.elem 127)).run Try.prog W = .ok 1 W := by
  have h : (Try.prog.info? (Try.prog.elem 127)).map (·.size) = some 1 := by kernel_rfl
  cases hq : Try.prog.info? (Try.prog.elem 127) with
  | none => simp [hq] at h
  | some i => simp [sizeOf, typeInfo, hq] at h ⊢; exact h
theorem sl64 (h o r : Nat) (hr : r < 64) (W : World) : (Instr.sliceAt 127 (.pointer (some ⟨h, o, none⟩)) (some (.int .i64 (r : Int))) none none).run Try.prog W = .ok (.slice (some ⟨h, o + r, none⟩) (64 - r) (64 - r)) W := by
  rw [run_sliceAt_array_l W 127 _ b64Und .i64 r (by omega) (by rw [b64Len]; omega), b64Size]
  simp only [Result.andThen_ok, slicedAt, b64Len, Int.toNat_natCast, Nat.mul_one]
  rw [if_neg (by omega), Addr.add_mid]
theorem sl64all (h o : Nat) (W : World) : (Instr.sliceAt 127 (.pointer (some ⟨h, o, none⟩)) none none none).run Try.prog W = .ok (.slice (some ⟨h, o, none⟩) 64 64) W := by
  rw [run_sliceAt_array_all W 127 _ b64Und, b64Size]
  simp only [Result.andThen_ok, slicedAt, b64Len]
  rw [if_neg (by omega), Addr.add_mid]
  rfl
theorem arrAt64 (g o c : Nat) (W : World) : (Instr.arrayAt 127 (.slice (some ⟨g, o, none⟩) 64 c)).run Try.prog W = .ok (.pointer (some ⟨g, o, none⟩)) W := by
  simp [Instr.arrayAt, run_underlying b64Und, b64Len]
/-- the bytes that are handed in lie apart from the Hash -/
def Src (w : World) (h : Nat) (p : List UInt8) (ao : Option Addr) : Prop := 0 < p.length → ∃ g o, ao = some ⟨g, o, none⟩ ∧ g ≠ h ∧ ∀ (j : Nat) (hj : j < p.length), w.cell? ⟨g, o + j, none⟩ = some (.int .u8 (p[j].toNat : Int))
set_option maxRecDepth 100000 in
set_option maxHeartbeats 1000000 in
theorem dWriteFew (h : Nat) (l p : List UInt8) (ao : Option Addr) (cap : Nat) (w : World) (hh : Hs w h l) (hsrc : Src w h p ao)
    (hb : l.length + p.length ≤ 4611686018427387904) (hf : l.length % 64 + p.length < 64) :
    Calls Try.prog 85 #[.pointer (some ⟨h, 0, none⟩), .slice ao p.length cap] w fun e w' => e = .returned (.tuple #[]) ∧ Hs w' h (l ++ p) ∧ U1 w w' h := by
  obtain ⟨lf, ha, ht⟩ := hh.at'
  obtain ⟨r, hr⟩ : ∃ r, r = l.length % 64 := ⟨_, rfl⟩
  obtain ⟨n, hn⟩ : ∃ n, n = l.length := ⟨_, rfl⟩
  obtain ⟨m, hm⟩ : ∃ m, m = p.length := ⟨_, rfl⟩
  have hrn : (n : Int) % 64 = (r : Int) := by omega
  have hr64 : (r : Int) < 64 := by omega
  have HF : Hid (Sha.absorb (l ++ p) = Sha.absorb l ∧ Sha.tail (l ++ p) = Sha.tail l ++ p) := Sha.absorb_few l p hf
  rw [← hr] at ht hf
  rw [← hn] at ha hb
  rw [← hm] at hb hf ⊢
  have hc := ha.cnt
  have hfz := ha.frozen 72
  have hsl := sl64 h 8 r (by omega)
  have ha1 := ha.setCnt (n + m)
  have hu1 : U1 w (w.setCell ⟨h, 72, none⟩ (.int .u64 ((n + m : Nat) : Int))) h := (U1.refl _ _).set _ _
  have hl64 := ha1.len
  obtain ⟨W2, hcp, ha2, hu2⟩ := copyLeft (r := r) (q := p) ha1 ao m cap (by rw [← hm]; exact (Nat.min_eq_left (by omega)).symm) (by omega) (fun hp => by
      obtain ⟨g, o, h1, h2, h3⟩ := hsrc hp
      refine ⟨_, h1, fun j hj => ?_⟩
      rw [Addr.add_mid]
      exact cell_u1 hu1 h2 (h3 j hj))
  rw [← hm, show ((n + m : Nat) : Int) = (n : Int) + (m : Int) from by omega] at hcp
  have HE : Hid (Hs W2 h (l ++ p) ∧ U1 w W2 h) := by
    refine ⟨⟨splice lf r p, ?_, ?_⟩, hu1.trans hu2⟩
    · rw [(unhide HF).1, List.length_append, ← hn, ← hm]; exact ha2
    · rw [(unhide HF).2, List.length_append, show (l.length + p.length) % 64 = r + p.length from by omega, splice_take _ _ _ (by omega), ht]
  clear ha1 ha2 hu1 hu2 HF hh ha ht hsrc hr hn hm
  go_enter Try.func85, Try.ntmps85
  go_wp2
  go_returns
  exact ⟨rfl, unhide HE⟩
set_option maxRecDepth 100000 in
set_option maxHeartbeats 1000000 in
theorem dWriteMore (h g o : Nat) (l p : List UInt8) (cap : Nat) (w : World) (hh : Hs w h l) (hne : g ≠ h) (hsrc : ∀ (j : Nat) (hj : j < p.length), w.cell? ⟨g, o + j, none⟩ = some (.int .u8 (p[j].toNat : Int)))
    (hb : l.length + p.length ≤ 4611686018427387904) (hcap : p.length ≤ cap) (hf : 64 ≤ l.length % 64 + p.length) :
    Calls Try.prog 85 #[.pointer (some ⟨h, 0, none⟩), .slice (some ⟨g, o, none⟩) p.length cap] w fun e w' => e = .returned (.tuple #[]) ∧ Hs w' h (l ++ p) ∧ U1 w w' h := by
  obtain ⟨lf, ha, ht⟩ := hh.at'
  obtain ⟨r, hr⟩ : ∃ r, r = l.length % 64 := ⟨_, rfl⟩
  obtain ⟨n, hn⟩ : ∃ n, n = l.length := ⟨_, rfl⟩
  obtain ⟨m, hm⟩ : ∃ m, m = p.length := ⟨_, rfl⟩
  have hrn : (n : Int) % 64 = (r : Int) := by omega
  have hr64 : (r : Int) < 64 := by omega
  have HF := hide (Sha.absorb_more l p hf)
  rw [← hr] at ht hf HF
  rw [← hn] at ha hb
  rw [← hm] at hb hf hcap ⊢
  obtain ⟨d, hd⟩ : ∃ d, d = 64 - r := ⟨_, rfl⟩
  have hc := ha.cnt
  have hfz := ha.frozen 72
  have hsl := sl64 h 8 r (by omega)
  have ha1 := ha.setCnt (n + m)
  have hu1 : U1 w (w.setCell ⟨h, 72, none⟩ (.int .u64 ((n + m : Nat) : Int))) h := (U1.refl _ _).set _ _
  have hl64 := ha1.len
  have hql : (p.take d).length = d := by rw [List.length_take]; omega
  obtain ⟨W2, hcp, ha2, hu2⟩ := copyLeft (r := r) (q := p.take d) ha1 (some ⟨g, o, none⟩) m cap (by rw [hql, hd]; exact (Nat.min_eq_right (by omega)).symm) (by omega) (fun hp => by
      refine ⟨_, rfl, fun j hj => ?_⟩
      rw [Addr.add_mid, List.getElem_take]
      exact cell_u1 hu1 hne (hsrc j (by omega)))
  rw [hql, show ((n + m : Nat) : Int) = (n : Int) + (m : Int) from by omega] at hcp
  rw [← hd] at hcp hsl
  have HA2 : Hid (HA W2 h (Sha.absorb l) (Sha.tail l ++ p.take d) (n + m)) := by
    have e : splice lf r (p.take d) = Sha.tail l ++ p.take d := by
      unfold splice
      rw [ht, hql, List.drop_of_length_le (by omega), List.append_nil]
    rw [← e]; exact ha2
  have HU2 := hide (hu1.trans hu2)
  have HSRC : Hid (∀ (j : Nat) (hj : j < p.length), W2.cell? ⟨g, o + j, none⟩ = some (.int .u8 (p[j].toNat : Int))) := fun j hj => cell_u1 (hu1.trans hu2) hne (hsrc j hj)
  have HR := hide hr
  have HN := hide hn
  have HM := hide hm
  have hd1 : (r : Int) + d = 64 := by omega
  have HD := hide hd
  clear ha1 ha2 hu1 hu2 hh ha ht hsrc hr hn hm hd
  go_enter Try.func85, Try.ntmps85
  go_wp2_with fail
  refine (dCubes _).mono ?_
  rintro e w3 ⟨rfl, hbel⟩
  have HB3 := hide hbel
  clear hbel
  go_wp2_with (refine wpList_store_u1 rfl 110 (.tmp 6) (.tmp 36) rfl w3.heap.size KV rfl rfl 110 Z64 (by first | exact heap_alloc_new _ _ | kernel_rfl) infoW rfl KV_is.one ?_; intro W3 HR3 HU3)
  have HW : Hid (WI w W3 h w3.heap.size g o p (Sha.absorb l) (Sha.tail l ++ p.take d) (n + m)) := by
    have hb3 := (unhide HB3).trans ((unhide HU3).fresh.mono (unhide HB3).size)
    have hlt := (unhide HA2).lt
    have hs3 := (unhide HB3).size
    have hrow := unhide HR3
    refine ⟨(unhide HA2).below hb3, fun i hi => ?_, ?_, by omega, fun j hj => cell_u1 (U1.below' hb3) hne (unhide HSRC j hj), hne, (unhide HU2).trans (U1.below' hb3)⟩
    · simp only [World.cell?, hrow]
      exact KV_is.at' i hi
    · exact (Array.getElem?_eq_some_iff.1 hrow).1
  clear HA2 HU2 HSRC HB3 HR3 HU3
  generalize w3.heap.size = tb at *
  refine wp_region_any (by kernel_rfl) ?_
  change wpAny _ _ _ _ _ _ _ (World.drew _)
  refine wpAny_take' 0 37 (.pointer (some ⟨h, 0, none⟩)) rfl rfl (by kernel_rfl) (by kernel_rfl) (by kernel_rfl) (fun _ _ _ h => h) rfl (fun u => by go_simp) ?_
  simp only [Act.put, List.setIfInBounds_toArray, List.set_cons_zero, List.set_cons_succ]
  refine wpAny_take' 1 38 (.pointer (some ⟨h, 0, none⟩)) rfl rfl (by kernel_rfl) (by kernel_rfl) (by kernel_rfl) (fun _ _ _ h => h) rfl (fun u => by go_simp) ?_
  simp only [Act.put, List.setIfInBounds_toArray, List.set_cons_zero, List.set_cons_succ]
  refine wpAny_take' 2 39 (.pointer (some ⟨h, 0, none⟩)) rfl rfl (by kernel_rfl) (by kernel_rfl) (by kernel_rfl) (fun _ _ _ h => h) rfl (fun u => by go_simp) ?_
  simp only [Act.put, List.setIfInBounds_toArray, List.set_cons_zero, List.set_cons_succ]
  refine wpAny_take' 3 40 (.pointer (some ⟨h, 0, none⟩)) rfl rfl (by kernel_rfl) (by kernel_rfl) (by kernel_rfl) (fun _ _ _ h => h) rfl (fun u => by go_simp) ?_
  simp only [Act.put, List.setIfInBounds_toArray, List.set_cons_zero, List.set_cons_succ]
  refine wpAny_take' 5 42 (.pointer (some ⟨h, 0, none⟩)) rfl rfl (by kernel_rfl) (by kernel_rfl) (by kernel_rfl) (fun _ _ _ h => h) rfl (fun u => by go_simp) ?_
  simp only [Act.put, List.setIfInBounds_toArray, List.set_cons_zero, List.set_cons_succ]
  refine wpAny_take' 6 43 (.pointer (some ⟨h, 0, none⟩)) rfl rfl (by kernel_rfl) (by kernel_rfl) (by kernel_rfl) (fun _ _ _ h => h) rfl (fun u => by go_simp) ?_
  simp only [Act.put, List.setIfInBounds_toArray, List.set_cons_zero, List.set_cons_succ]
  refine wpAny_take' 7 44 (.pointer (some ⟨h, 8, none⟩)) rfl rfl (by kernel_rfl) (by kernel_rfl) (by kernel_rfl) (fun _ _ _ h => h) rfl (fun u => by go_simp) ?_
  simp only [Act.put, List.setIfInBounds_toArray, List.set_cons_zero, List.set_cons_succ]
  have hst := (unhide HW).drew.ha.st
  have hlf : W3.drew.rangeAt h 8 (Lib.byteCells (Sha.tail l ++ p.take d)).toArray.toList := (unhide HW).drew.ha.lf
  have hcl := (lf_is8 _ (unhide HW).ha.len).size
  have hi2 : (Try.prog.info? 127).map (·.size) = some (Lib.byteCells (Sha.tail l ++ p.take d)).toArray.size := by rw [infoB, hcl]
  refine wpAny_pair (i := 4) (j := 8) (by kernel_rfl) (by kernel_rfl) (by kernel_rfl) (by kernel_rfl) rfl rfl rfl rfl 41 45 (by decide)
    (fun K hK => wp_load_arr 90 (.tmp 40) rfl (some 41) rfl h 0 rfl (St8 (Sha.absorb l)) _ _ hst Try.underlying90 info8 hK)
    (fun K hK => wp_load_arr 90 (.tmp 40) rfl (some 41) rfl h 0 rfl (St8 (Sha.absorb l)) _ _ hst Try.underlying90 info8 hK)
    (fun K hK => wp_load_arr 127 (.tmp 44) rfl (some 45) rfl h 8 rfl (Lib.byteCells (Sha.tail l ++ p.take d)).toArray _ _ hlf Try.underlying127 hi2 hK)
    (fun K hK => wp_load_arr 127 (.tmp 44) rfl (some 45) rfl h 8 rfl (Lib.byteCells (Sha.tail l ++ p.take d)).toArray _ _ hlf Try.underlying127 hi2 hK) ?_
  simp only [Act.put, List.setIfInBounds_toArray, List.set_cons_zero, List.set_cons_succ]
  refine wpAny_one (i := 9) (by kernel_rfl) rfl rfl fun K hK => ?_
  go_simp
  refine (dMixed (lfB (Sha.tail l ++ p.take d)) (lfB_lt _) _ (Ok.absorb l) _ (lf_is8 _ (unhide HW).ha.len) tb _ (unhide HW).drew.tlt (unhide HW).drew.tab).mono ?_
  rintro e w4 ⟨rfl, hb4⟩
  rw [mix_lfB]
  have HW4 := hide ((unhide HW).drew.step hb4 (Sha.mix (Sha.absorb l) (Sha.tail l ++ p.take d)))
  have hth := ((unhide HW).drew.ha.below hb4).there
  have hok : Ok (Sha.mix (Sha.absorb l) (Sha.tail l ++ p.take d)) := Ok.mix _ _
  clear HW hb4 hst hlf hi2 hcl
  generalize hs1 : Sha.mix (Sha.absorb l) (Sha.tail l ++ p.take d) = s1 at *
  have HS1 := hide hs1
  clear hs1
  refine hK _ _ ?_
  clear hK K
  refine wpAny_take' 10 47 (.pointer (some ⟨h, 0, none⟩)) rfl rfl (by kernel_rfl) (by kernel_rfl) (by kernel_rfl) (fun _ _ _ h => h) rfl (fun u => by go_simp) ?_
  simp only [Act.put, List.setIfInBounds_toArray, List.set_cons_zero, List.set_cons_succ]
  refine wpAny_take' 11 48 (.pointer (some ⟨h, 0, none⟩)) rfl rfl (by kernel_rfl) (by kernel_rfl) (by kernel_rfl) (fun _ _ _ h => h) rfl (fun u => by go_simp) ?_
  simp only [Act.put, List.setIfInBounds_toArray, List.set_cons_zero, List.set_cons_succ]
  refine wpAny_one (i := 12) (by kernel_rfl) rfl rfl fun K hK => wp_store_arr 90 (.tmp 48) (.tmp 46) rfl rfl h 0 (St8 s1) rfl rfl hth info8 (St8_one s1) (hK _ _ ?_)
  clear hK K
  refine wpAny_done (by kernel_rfl) ?_ _
  clear hth
  generalize w4.setCells h 0 (St8 s1).toList = W4 at *
  have hct := cutFrom g o m cap d (by omega)
  have HW5 := hide ((unhide HW4).cut cap d (by rw [← unhide HM]; exact hcap))
  have hql2 : (p.drop d).length = m - d := by rw [List.length_drop, ← unhide HM]
  have HQ := hide hql2
  clear hql hql2 HW4
  generalize hlf0 : Sha.tail l ++ p.take d = lf0 at *
  have HL0 := hide hlf0
  clear hlf0
  go_wp2
  clear hct
  go_loopw [1] (fun v wr => ∃ (k o1 m1 c1 : Nat), v = .slice (some ⟨g, o1, none⟩) m1 c1 ∧ m1 ≤ c1 ∧ m1 ≤ m ∧ Hid (64 * k + m1 = (p.drop d).length) ∧ Hid (WI w wr h tb g o1 ((p.drop d).drop (64 * k)) (Sha.blocks k s1 (p.drop d)) lf0 (n + m))) (fun v _ => sliceLen v)
  case atStart => exact ⟨0, cutO cap d o, m - d, cap - d, rfl, by omega, by omega, hide (by rw [unhide HQ]; omega), HW5⟩
  case round =>
    clear HW5
    obtain ⟨k, o1, m1, c1, rfl, hc1, hm1, HK, HW⟩ := hrel
    by_cases hlt : 64 ≤ m1
    · have hlti : (64 : Int) ≤ (m1 : Int) := by omega
      have hcti := cutTo g o1 m1 c1 64 (by omega) (by omega)
      have hctf := cutFrom g o1 m1 c1 64 (by omega)
      rw [show ((64 : Nat) : Int) = 64 from rfl] at hcti hctf
      have haa := arrAt64 g o1 c1
      have hok1 : Hid (Ok (Sha.blocks k s1 (p.drop d))) := hok.blocks _ _
      have HX : Hid (Sha.blocks (k + 1) s1 (p.drop d) = Sha.mix (Sha.blocks k s1 (p.drop d)) (((p.drop d).drop (64 * k)).take 64)) := Sha.blocks_succ _ _ _
      have hxl : (((p.drop d).drop (64 * k)).take 64).length = 64 := by rw [List.length_take, List.length_drop]; have := unhide HK; omega
      have HXL := hide hxl
      have HXD : Hid (((p.drop d).drop (64 * k)).drop 64 = (p.drop d).drop (64 * (k + 1))) := by rw [List.drop_drop, show 64 * k + 64 = 64 * (k + 1) from by omega]; exact hide rfl
      have HXM : Hid (((p.drop d).drop (64 * k)).length = m1) := by rw [List.length_drop]; have := unhide HK; exact hide (by omega)
      clear hxl
      generalize Sha.blocks k s1 (p.drop d) = s2 at *
      generalize (p.drop d).drop (64 * k) = x at *
      go_wp2
      refine wp_region_any (by kernel_rfl) ?_
      change wpAny _ _ _ _ _ _ _ (World.drew _)
      refine wpAny_take' 0 55 (.pointer (some ⟨h, 0, none⟩)) rfl rfl (by kernel_rfl) (by kernel_rfl) (by kernel_rfl) (fun _ _ _ h => h) rfl (fun u => by go_simp) ?_
      simp only [Act.put, List.setIfInBounds_toArray, List.set_cons_zero, List.set_cons_succ]
      refine wpAny_take' 1 56 (.pointer (some ⟨h, 0, none⟩)) rfl rfl (by kernel_rfl) (by kernel_rfl) (by kernel_rfl) (fun _ _ _ h => h) rfl (fun u => by go_simp) ?_
      simp only [Act.put, List.setIfInBounds_toArray, List.set_cons_zero, List.set_cons_succ]
      refine wpAny_take' 2 57 (.pointer (some ⟨h, 0, none⟩)) rfl rfl (by kernel_rfl) (by kernel_rfl) (by kernel_rfl) (fun _ _ _ h => h) rfl (fun u => by go_simp) ?_
      simp only [Act.put, List.setIfInBounds_toArray, List.set_cons_zero, List.set_cons_succ]
      refine wpAny_take' 3 58 (.pointer (some ⟨h, 0, none⟩)) rfl rfl (by kernel_rfl) (by kernel_rfl) (by kernel_rfl) (fun _ _ _ h => h) rfl (fun u => by go_simp) ?_
      simp only [Act.put, List.setIfInBounds_toArray, List.set_cons_zero, List.set_cons_succ]
      refine wpAny_take' 5 60 (.slice (some ⟨g, o1, none⟩) m1 c1) rfl rfl (by kernel_rfl) (by kernel_rfl) (by kernel_rfl) (fun _ _ _ h => h) rfl (fun u => by go_simp) ?_
      simp only [Act.put, List.setIfInBounds_toArray, List.set_cons_zero, List.set_cons_succ]
      refine wpAny_take' 6 61 (.slice (some ⟨g, o1, none⟩) 64 c1) rfl rfl (by kernel_rfl) (by kernel_rfl) (by kernel_rfl) (fun _ _ _ h => h) rfl (fun u => by go_simp) ?_
      simp only [Act.put, List.setIfInBounds_toArray, List.set_cons_zero, List.set_cons_succ]
      refine wpAny_take' 7 62 (.pointer (some ⟨g, o1, none⟩)) rfl rfl (by kernel_rfl) (by kernel_rfl) (by kernel_rfl) (fun _ _ _ h => h) rfl (fun u => by go_simp) ?_
      simp only [Act.put, List.setIfInBounds_toArray, List.set_cons_zero, List.set_cons_succ]
      have hst := (unhide HW).drew.ha.st
      have hlf : wr.drew.rangeAt g o1 (Lib.byteCells (x.take 64)).toArray.toList := (unhide HW).drew.front 64
      have hi2 : (Try.prog.info? 127).map (·.size) = some (Lib.byteCells (x.take 64)).toArray.size := by rw [infoB, (lf_is8 _ (unhide HXL)).size]
      refine wpAny_pair (i := 4) (j := 8) (by kernel_rfl) (by kernel_rfl) (by kernel_rfl) (by kernel_rfl) rfl rfl rfl rfl 59 63 (by decide)
        (fun K hK => wp_load_arr 90 (.tmp 58) rfl (some 59) rfl h 0 rfl (St8 s2) _ _ hst Try.underlying90 info8 hK)
        (fun K hK => wp_load_arr 90 (.tmp 58) rfl (some 59) rfl h 0 rfl (St8 s2) _ _ hst Try.underlying90 info8 hK)
        (fun K hK => wp_load_arr 127 (.tmp 62) rfl (some 63) rfl g o1 rfl (Lib.byteCells (x.take 64)).toArray _ _ hlf Try.underlying127 hi2 hK)
        (fun K hK => wp_load_arr 127 (.tmp 62) rfl (some 63) rfl g o1 rfl (Lib.byteCells (x.take 64)).toArray _ _ hlf Try.underlying127 hi2 hK) ?_
      simp only [Act.put, List.setIfInBounds_toArray, List.set_cons_zero, List.set_cons_succ]
      refine wpAny_one (i := 9) (by kernel_rfl) rfl rfl fun K hK => ?_
      go_simp
      refine (dMixed (lfB (x.take 64)) (lfB_lt _) _ (unhide hok1) _ (lf_is8 _ (unhide HXL)) tb _ (unhide HW).drew.tlt (unhide HW).drew.tab).mono ?_
      rintro e w4 ⟨rfl, hb4⟩
      rw [mix_lfB]
      have HW4 := hide ((unhide HW).drew.step hb4 (Sha.mix s2 (x.take 64)))
      have hth := ((unhide HW).drew.ha.below hb4).there
      clear HW hb4 hst hlf hi2
      generalize Sha.mix s2 (x.take 64) = s3 at *
      refine hK _ _ ?_
      clear hK K
      refine wpAny_take' 10 65 (.pointer (some ⟨h, 0, none⟩)) rfl rfl (by kernel_rfl) (by kernel_rfl) (by kernel_rfl) (fun _ _ _ h => h) rfl (fun u => by go_simp) ?_
      simp only [Act.put, List.setIfInBounds_toArray, List.set_cons_zero, List.set_cons_succ]
      refine wpAny_take' 11 66 (.pointer (some ⟨h, 0, none⟩)) rfl rfl (by kernel_rfl) (by kernel_rfl) (by kernel_rfl) (fun _ _ _ h => h) rfl (fun u => by go_simp) ?_
      simp only [Act.put, List.setIfInBounds_toArray, List.set_cons_zero, List.set_cons_succ]
      refine wpAny_one (i := 12) (by kernel_rfl) rfl rfl fun K hK => wp_store_arr 90 (.tmp 66) (.tmp 64) rfl rfl h 0 (St8 s3) rfl rfl hth info8 (St8_one s3) (hK _ _ ?_)
      clear hK K
      refine wpAny_done (by kernel_rfl) ?_ _
      clear hth
      generalize w4.setCells h 0 (St8 s3).toList = W5 at *
      go_wp2
      go_roundw
      case rel =>
        refine ⟨k + 1, cutO c1 64 o1, m1 - 64, c1 - 64, rfl, by omega, by omega, ?_, ?_⟩
        · have := unhide HK; exact hide (by omega)
        · rw [unhide HX, ← unhide HXD]
          exact hide ((unhide HW4).cut c1 64 (by rw [unhide HXM]; exact hc1))
      case measure => simp [sliceLen]; omega
    · have hlti : (m1 : Int) < 64 := by omega
      have hsa := sl64all h 8
      have hkk : k = (p.drop d).length / 64 := by have := unhide HK; omega
      have hxl : ((p.drop d).drop (64 * k)).length = m1 := by rw [List.length_drop]; have := unhide HK; omega
      obtain ⟨W6, hcp, ha6, hu6⟩ := copyLeft (r := 0) (q := (p.drop d).drop (64 * k)) (unhide HW).ha (some ⟨g, o1, none⟩) m1 c1 (by rw [hxl]; exact (Nat.min_eq_left (by omega)).symm) (by omega) (fun hp => ⟨_, rfl, fun j hj => by rw [Addr.add_mid]; exact (unhide HW).src j hj⟩)
      rw [hxl] at hcp
      simp only [Nat.add_zero, Nat.sub_zero] at hcp
      have HE : Hid (Hs W6 h (l ++ p) ∧ U1 w W6 h) := by
        refine ⟨⟨splice lf0 0 ((p.drop d).drop (64 * k)), ?_, ?_⟩, (unhide HW).u1.trans hu6⟩
        · rw [(unhide HF).1, List.length_append, ← unhide HN, ← unhide HM, ← unhide HD, ← hkk, unhide HL0, unhide HS1]
          exact ha6
        · have hx2 : (l ++ p).length % 64 = ((p.drop d).drop (64 * k)).length := by
            have e1 := unhide HQ
            have e2 := unhide HN
            have e3 := unhide HM
            have e4 := unhide HR
            have e5 := unhide HK
            rw [List.length_append, hxl, ← e2, ← e3]
            rw [e1] at e5
            rw [← e2] at e4
            omega
          have ht2 : Sha.tail (l ++ p) = (p.drop d).drop (64 * k) := by
            rw [(unhide HF).2, ← unhide HD, hkk]; rfl
          have hl0 := (unhide HW).ha.len
          have h3 := splice_take lf0 0 ((p.drop d).drop (64 * k)) (by omega)
          rw [Nat.zero_add, List.take_zero, List.nil_append] at h3
          rw [hx2, ht2]
          exact h3
      clear ha6 hu6 HW hkk
      go_wp2
      go_returns
      exact ⟨rfl, unhide HE⟩
end
section
open Go.RowKit
theorem zero_run {P : Program} {t : TypeId} {cells : Array Value} (hz : ((P.info? t).bind (·.zero)).map (·.cells) = some cells) (w : World) : ∃ z, (zeroValue t).run P w = .ok z w ∧ z.cells = cells := by
  cases hq : P.info? t with
  | none => simp [hq] at hz
  | some i =>
    cases hz' : i.zero with
    | none => simp [hq, hz'] at hz
    | some z => exact ⟨z, by simp [zeroValue, typeInfo, hq, hz'], by simpa [hq, hz'] using hz⟩
/-- a new variable -/
theorem wpList_alloc_row {P : Program} {ops : Array Oper} {rest : List Oper} {o : Oper} {a : Act} {w : World} {Q : Exit → Act → World → Prop} (hg : o.guard = none) (t : TypeId) (ho : o.op = .alloc t) (d : Option Tmp) (hd : o.dst = d)
    (N : Nat) (hN : w.heap.size = N) (cells : Array Value) (hz : ((P.info? t).bind (·.zero)).map (·.cells) = some cells)
    (h : ∀ w', Hid (w'.heap[N]? = some (.cells cells t (0, 0))) → Hid (Below N w w') → Hid (w'.heap.size = N + 1) → wpList P ops Q rest (a.put d (.pointer (some ⟨N, 0, none⟩))) w') : wpList P ops Q (o :: rest) a w := by
  subst hd hN
  obtain ⟨z, h1, h2⟩ := zero_run hz w
  refine wpList_plain hg fun K hK => ?_
  unfold Oper.wp execOp
  simp only [ho, Sem.run_bind, Instr.alloc, h1, newVar, newRow, run_newObj_alloc, Sem.run_pure, Result.andThen_ok, h2]
  exact hK _ _ (h _ (heap_alloc_new _ _) ((Below.refl _ _).alloc (Nat.le_refl _) _) (hide (by simp)))
/-- a new variable that holds a value -/
theorem wpList_box_row {P : Program} {ops : Array Oper} {rest : List Oper} {o : Oper} {a : Act} {w : World} {Q : Exit → Act → World → Prop} (hg : o.guard = none) (t : TypeId) (x : Operand) (ho : o.op = .box t x) (d : Option Tmp) (hd : o.dst = d)
    (N : Nat) (hN : w.heap.size = N) (cells : Array Value) (hx : (a.eval x).cells = cells)
    (h : ∀ w', Hid (w'.heap[N]? = some (.cells cells t (0, 0))) → Hid (Below N w w') → Hid (w'.heap.size = N + 1) → wpList P ops Q rest (a.put d (.pointer (some ⟨N, 0, none⟩))) w') : wpList P ops Q (o :: rest) a w := by
  subst hN
  subst hd hx
  refine wpList_plain hg fun K hK => ?_
  unfold Oper.wp execOp
  simp only [ho, Sem.run_bind, Instr.box, newVar, newRow, run_newObj_alloc, Sem.run_pure, Result.andThen_ok]
  exact hK _ _ (h _ (heap_alloc_new _ _) ((Below.refl _ _).alloc (Nat.le_refl _) _) (hide (by simp)))
theorem dWrite (h : Nat) (l p : List UInt8) (ao : Option Addr) (cap : Nat) (w : World) (hh : Hs w h l) (hsrc : Src w h p ao) (hcap : p.length ≤ cap)
    (hb : l.length + p.length ≤ 4611686018427387904) :
    Calls Try.prog 85 #[.pointer (some ⟨h, 0, none⟩), .slice ao p.length cap] w fun e w' => e = .returned (.tuple #[]) ∧ Hs w' h (l ++ p) ∧ U1 w w' h := by
  by_cases hf : l.length % 64 + p.length < 64
  · exact dWriteFew h l p ao cap w hh hsrc hb hf
  · obtain ⟨g, o, rfl, h1, h2⟩ := hsrc (by omega)
    exact dWriteMore h g o l p cap w hh h1 h2 hb hcap (by omega)
theorem infoH : (Try.prog.info? 129).map (·.size) = some 73 := by kernel_rfl
def Z73 : Array Value := (List.replicate 8 (Value.int .u32 0) ++ (List.replicate 64 (Value.int .u8 0) ++ [Value.int .u64 0])).toArray
theorem zeroH : ((Try.prog.info? 129).bind (·.zero)).map (·.cells) = some Z73 := by kernel_rfl
def Z32 : Array Value := (List.replicate 32 (.int .u8 0)).toArray
theorem zeroS : ((Try.prog.info? 71).bind (·.zero)).map (·.cells) = some Z32 := by kernel_rfl
def Z512 : Array Value := (List.replicate 512 (.int .u8 0)).toArray
theorem zeroP : ((Try.prog.info? 130).bind (·.zero)).map (·.cells) = some Z512 := by kernel_rfl
theorem Hs.of_start {u : World} {h : Nat} (k : u.heap[h]? = some (.cells (HC Sha.start (List.replicate 64 0) 0).toArray 129 (0, 0))) : Hs u h [] :=
  ⟨List.replicate 64 0, ⟨k, by simp⟩, rfl⟩
set_option maxRecDepth 100000 in
theorem dNew (w : World) : Calls Try.prog 78 #[] w fun e w' => ∃ h, e = .returned (.pointer (some ⟨h, 0, none⟩)) ∧ w.heap.size ≤ h ∧ Hs w' h [] ∧ Below w.heap.size w w' := by
  go_enter Try.func78, Try.ntmps78
  go_wp2_with fail
  refine (dStart _).mono ?_
  rintro e w1 ⟨rfl, hb⟩
  have HB := hide hb
  clear hb
  go_wp2_with (first | (refine wpList_buildTo (by rfl) 129 #[(0, .tmp 1)] (by rfl) (some 2) (by rfl) (HC Sha.start (List.replicate 64 0) 0).toArray (by kernel_rfl) ?_) | (refine wpList_box_row (by rfl) 129 (.tmp 2) (by rfl) (some 3) (by rfl) w1.heap.size rfl (HC Sha.start (List.replicate 64 0) 0).toArray (by rfl) ?_; intro W2 HR2 HB2 HS2))
  go_ret
  exact ⟨w1.heap.size, rfl, (unhide HB).size, Hs.of_start (unhide HR2), (unhide HB).trans ((unhide HB2).mono (unhide HB).size)⟩
end
section
open Go.RowKit
theorem undH : ∃ fs, Try.prog.underlying 129 = some (.struct fs) := ⟨_, Try.underlying129⟩
/-- the byte i of what is told of a state -/
def toldB (s : Sha.St) (i : Nat) : Nat := fld s (i / 4) / 2 ^ (24 - i % 4 * 8) % 256
theorem toldB_at (s : Sha.St) (i : Nat) (hi : i < 32) : (Lib.byteCells (Sha.told s))[i]? = some (.int .u8 (toldB s i : Nat)) := by
  match i, hi with
  | 0, _ => rfl
  | 1, _ => rfl
  | 2, _ => rfl
  | 3, _ => rw [show toldB s 3 = s.a % 256 from congrArg (· % 256) (Nat.div_one s.a)]; rfl
  | 4, _ => rfl
  | 5, _ => rfl
  | 6, _ => rfl
  | 7, _ => rw [show toldB s 7 = s.b % 256 from congrArg (· % 256) (Nat.div_one s.b)]; rfl
  | 8, _ => rfl
  | 9, _ => rfl
  | 10, _ => rfl
  | 11, _ => rw [show toldB s 11 = s.c % 256 from congrArg (· % 256) (Nat.div_one s.c)]; rfl
  | 12, _ => rfl
  | 13, _ => rfl
  | 14, _ => rfl
  | 15, _ => rw [show toldB s 15 = s.d % 256 from congrArg (· % 256) (Nat.div_one s.d)]; rfl
  | 16, _ => rfl
  | 17, _ => rfl
  | 18, _ => rfl
  | 19, _ => rw [show toldB s 19 = s.e % 256 from congrArg (· % 256) (Nat.div_one s.e)]; rfl
  | 20, _ => rfl
  | 21, _ => rfl
  | 22, _ => rfl
  | 23, _ => rw [show toldB s 23 = s.f % 256 from congrArg (· % 256) (Nat.div_one s.f)]; rfl
  | 24, _ => rfl
  | 25, _ => rfl
  | 26, _ => rfl
  | 27, _ => rw [show toldB s 27 = s.g % 256 from congrArg (· % 256) (Nat.div_one s.g)]; rfl
  | 28, _ => rfl
  | 29, _ => rfl
  | 30, _ => rfl
  | 31, _ => rw [show toldB s 31 = s.h % 256 from congrArg (· % 256) (Nat.div_one s.h)]; rfl
  | n + 32, h => exact absurd h (by omega)
/-- a row of 32 bytes, the first k of them told -/
structure T32 (s : Sha.St) (wr : World) (g k : Nat) : Prop where
  row : ∃ cur : Array Value, wr.heap[g]? = some (.cells cur 71 (0, 0)) ∧ cur.size = 32 ∧ ∀ j, j < k → cur[j]? = some (.int .u8 (toldB s j : Nat))
theorem T32.whole {s : Sha.St} {wr : World} {g : Nat} (h : T32 s wr g 32) : wr.heap[g]? = some (.cells (Lib.byteCells (Sha.told s)).toArray 71 (0, 0)) := by
  obtain ⟨cur, h1, h2, h3⟩ := h.row
  rw [h1]
  congr 2
  apply Array.ext_getElem?
  intro i
  by_cases hi : i < 32
  · rw [h3 i hi, List.getElem?_toArray, toldB_at s i hi]
  · rw [Array.getElem?_eq_none (by omega), Array.getElem?_eq_none (by show 32 ≤ i; omega)]
theorem T32.cell {s : Sha.St} {wr : World} {g k : Nat} (h : T32 s wr g k) (j : Nat) (hj : j < 32) : (∃ v, wr.cell? ⟨g, j, none⟩ = some v) ∧ wr.frozen? ⟨g, j, none⟩ = false := by
  obtain ⟨cur, h1, h2, h3⟩ := h.row
  have : j < cur.size := by omega
  exact ⟨⟨cur[j], by simp [World.cell?, h1, this]⟩, by simp [World.frozen?, h1]⟩
theorem T32.next {s : Sha.St} {wr : World} {g k : Nat} (h : T32 s wr g k) (hk : k < 32) (v : Value) (hv : v = .int .u8 (toldB s k : Nat)) : T32 s (wr.setCell ⟨g, k, none⟩ v) g (k + 1) := by
  obtain ⟨cur, h1, h2, h3⟩ := h.row
  refine ⟨_, heapCell_same h1 _ _, by simpa using h2, fun j hj => ?_⟩
  rw [Array.getElem?_setIfInBounds]
  by_cases hjk : k = j
  · subst hjk; rw [if_pos rfl, if_pos (by omega), hv]
  · rw [if_neg hjk]; exact h3 j (by omega)
theorem T32.keep {s : Sha.St} {u u' : World} {g k : Nat} (h : T32 s u g k) (e : u'.heap[g]? = u.heap[g]?) : T32 s u' g k := by
  obtain ⟨cur, h1, h2⟩ := h.row
  exact ⟨cur, e.trans h1, h2⟩
theorem sumOne (s : Sha.St) : (Lib.byteCells (Sha.told s)).toArray.all (·.oneCell') = true := all_oneCell_toArray (byteCells_one _)
set_option maxRecDepth 100000 in
set_option maxHeartbeats 1000000 in
theorem dTold (s : Sha.St) (hs : Ok s) (w : World) : Calls Try.prog 87 #[.agg (St8 s)] w fun e w' => e = .returned (.agg (Lib.byteCells (Sha.told s)).toArray) ∧ Below w.heap.size w w' := by
  have HS := hide hs
  clear hs
  have hu := Try.underlying71
  obtain ⟨b, hb⟩ : ∃ b, b = w.heap.size := ⟨_, rfl⟩
  have HBW := hide hb
  clear hb
  go_enter Try.func87, Try.ntmps87
  go_wp2_with (first | (refine wpList_box_row (by rfl) 90 (.tmp 0) (by rfl) (some 1) (by rfl) b (by exact (unhide HBW).symm) (St8 s) (by rfl) ?_; intro W1 HR1 HB1 HS1) | (refine wpList_alloc_row (by rfl) 71 (by rfl) (some 2) (by rfl) (b + 1) (by exact unhide HS1) Z32 zeroS ?_; intro W2 HR2 HB2 HS2) | (refine wpList_alloc_row (by rfl) 71 (by rfl) (some 3) (by rfl) (b + 1 + 1) (by exact unhide HS2) Z32 zeroS ?_; intro W3 HR3 HB3 HS3))
  have HB : Hid (Below b w W3 ∧ W3.heap[b]? = some (.cells (St8 s) 90 (0, 0)) ∧ W3.heap[b + 1]? = some (.cells Z32 71 (0, 0)) ∧ T32 s W3 (b + 1 + 1) 0) := by
    have h1 := unhide HB1
    have h2 := unhide HB2
    have h3 := unhide HB3
    have hbw := unhide HBW
    have hs1 := unhide HS1
    have hs2 := unhide HS2
    refine ⟨(h1.trans (h2.mono (by omega))).trans (h3.mono (by omega)), ?_, ?_, ⟨Z32, unhide HR3, rfl, fun j hj => absurd hj (Nat.not_lt_zero _)⟩⟩
    · rw [h3.block b (by omega), h2.block b (by omega)]; exact unhide HR1
    · rw [h3.block (b + 1) (by omega)]; exact unhide HR2
  clear HR1 HB1 HS1 HR2 HB2 HS2 HR3 HB3 HS3
  go_loopw [5] (fun v wr => ∃ k : Nat, k ≤ 32 ∧ v = .int .i64 k ∧ Hid (Below b w wr ∧ wr.heap[b]? = some (.cells (St8 s) 90 (0, 0)) ∧ wr.heap[b + 1]? = some (.cells Z32 71 (0, 0)) ∧ T32 s wr (b + 1 + 1) k)) (fun v _ => 32 - (RowKit.intOf v).toNat)
  case atStart => exact ⟨0, by omega, rfl, HB⟩
  case round =>
    clear HB
    obtain ⟨k, hk, rfl, HI⟩ := hrel
    by_cases hlt : k < 32
    · have hki : (k : Int) < 32 := by omega
      obtain ⟨q, hq⟩ : ∃ q : Nat, q = k / 4 := ⟨_, rfl⟩
      obtain ⟨r, hr⟩ : ∃ r : Nat, r = k % 4 := ⟨_, rfl⟩
      have hq1 : (k : Int) / 4 = (q : Int) := by omega
      have hq8 : (q : Int) < 8 := by omega
      have hc : wr.cell? ⟨b, q, none⟩ = some (.int .u32 (fld s q : Nat)) := by simp only [World.cell?, (unhide HI).2.1]; exact St8_at s q (by omega)
      obtain ⟨⟨v0, hc2⟩, hfz⟩ := (unhide HI).2.2.2.cell k hlt
      have hfl := fld_lt (unhide HS) q
      have HN : Hid (∀ v, v = .int .u8 (toldB s k : Nat) → Below b w (wr.setCell ⟨b + 1 + 1, k, none⟩ v) ∧ (wr.setCell ⟨b + 1 + 1, k, none⟩ v).heap[b]? = some (.cells (St8 s) 90 (0, 0)) ∧ (wr.setCell ⟨b + 1 + 1, k, none⟩ v).heap[b + 1]? = some (.cells Z32 71 (0, 0)) ∧ T32 s (wr.setCell ⟨b + 1 + 1, k, none⟩ v) (b + 1 + 1) (k + 1)) := by
        intro v hv
        have hI := unhide HI
        refine ⟨belowCell hI.1 (by show b ≤ b + 1 + 1; omega) _, ?_, ?_, hI.2.2.2.next hlt v hv⟩
        · rw [Deep.blk_setCell_other _ _ _ _ (by show b ≠ b + 1 + 1; omega)]; exact hI.2.1
        · rw [Deep.blk_setCell_other _ _ _ _ (by show b + 1 ≠ b + 1 + 1; omega)]; exact hI.2.2.1
      have HT : Hid (toldB s k = fld s q / 2 ^ (24 - r * 8) % 256) := by unfold toldB; rw [← hq, ← hr]; exact hide rfl
      have hr4 : r < 4 := by omega
      generalize fld s q = x at *
      clear HI hq
      have hcase : r = 0 ∨ r = 1 ∨ r = 2 ∨ r = 3 := by omega
      rcases hcase with rfl | rfl | rfl | rfl
      · have hr1 : (k : Int) % 4 = 0 := by omega
        have HT0 : Hid (toldB s k = x / 16777216 % 256) := unhide HT
        clear hr hr4 HT
        go_wp2
        exact ⟨⟨k + 1, by omega, by go_num, hide (unhide HN _ (by rw [unhide HT0]; congr 1 <;> omega))⟩, by simp [RowKit.intOf]; omega⟩
      · have hr1 : (k : Int) % 4 = 1 := by omega
        have HT0 : Hid (toldB s k = x / 65536 % 256) := unhide HT
        clear hr hr4 HT
        go_wp2
        exact ⟨⟨k + 1, by omega, by go_num, hide (unhide HN _ (by rw [unhide HT0]; congr 1 <;> omega))⟩, by simp [RowKit.intOf]; omega⟩
      · have hr1 : (k : Int) % 4 = 2 := by omega
        have HT0 : Hid (toldB s k = x / 256 % 256) := unhide HT
        clear hr hr4 HT
        go_wp2
        exact ⟨⟨k + 1, by omega, by go_num, hide (unhide HN _ (by rw [unhide HT0]; congr 1 <;> omega))⟩, by simp [RowKit.intOf]; omega⟩
      · have hr1 : (k : Int) % 4 = 3 := by omega
        have HT0 : Hid (toldB s k = x / 1 % 256) := unhide HT
        clear hr hr4 HT
        go_wp2
        exact ⟨⟨k + 1, by omega, by go_num, hide (unhide HN _ (by rw [unhide HT0]; congr 1 <;> omega))⟩, by simp [RowKit.intOf]; omega⟩
    · have hkk : k = 32 := by omega
      subst hkk
      have h1 := (unhide HI).2.2.2.whole
      have h2 := (unhide HI).2.2.1
      have hsi : (Try.prog.info? 71).map (·.size) = some (Lib.byteCells (Sha.told s)).toArray.size := infoS
      go_wp2_with (first | (refine wpList_load_row rfl 71 (.tmp 3) rfl (b + 1 + 1) rfl 71 (Lib.byteCells (Sha.told s)).toArray (0, 0) _ h1 hu rfl hsi ?_) | (refine wpList_store_u1 rfl 71 (.tmp 2) (.tmp 21) rfl (b + 1) (Lib.byteCells (Sha.told s)).toArray rfl rfl 71 Z32 h2 hsi rfl (sumOne s) ?_; intro W4 HR4 HU4))
      refine bodyPost_ret (results_cell_row rfl _ _ (b + 1) 71 (Lib.byteCells (Sha.told s)).toArray (0, 0) _ rfl (unhide HR4) hu rfl hsi) rfl ?_
      have hbw := unhide HBW
      refine ⟨rfl, ?_⟩
      rw [← hbw]
      exact (unhide HI).1.trans ((unhide HU4).toBelow (by have := (unhide HI).1.size; omega) (by omega))
end
section
open Go.RowKit
/-- as many of a text's bytes as there is room for -/
theorem copy_str {P : Program} (w : World) (dT sT ty elem : TypeId) (g o dLen dCap : Nat) (s : ByteArray) (cur : Array Value) (t : TypeId)
    (hu : P.underlying dT = some (.slice elem)) (hs : (P.info? elem).map (·.size) = some 1) (hg : w.heap[g]? = some (.cells cur t (0, 0))) (hfit : o + Nat.min s.size dLen ≤ cur.size) :
    (Builtin.copy_ #[dT, sT] ty #[.slice (some ⟨g, o, none⟩) dLen dCap, .string s]).run P w =
      .ok (goInt (Nat.min s.size dLen)) (w.setRow g (splice cur.toList o (Lib.byteCells (s.data.toList.take (Nat.min s.size dLen)))).toArray) := by
  have hsz : s.data.toList.length = s.size := by rw [Array.length_toList]; rfl
  have hlen : (Lib.byteCells (s.data.toList.take (Nat.min s.size dLen))).length = Nat.min s.size dLen := by
    rw [byteCells_len, List.length_take, hsz]; exact Nat.min_eq_left (Nat.min_le_left _ _)
  have hst := run_storeCells_at P g o t (Lib.byteCells (s.data.toList.take (Nat.min s.size dLen))) 0 cur w hg (by rw [hlen]; simpa using hfit) (byteCells_one _)
  have htk : List.take (Nat.min s.size dLen) (List.map (fun b : UInt8 => Value.int IntKind.u8 (b.toNat : Int)) s.data.toList) = Lib.byteCells (s.data.toList.take (Nat.min s.size dLen)) := by
    simp [Lib.byteCells, List.map_take]
  simp only [Nat.add_zero] at hst
  cases hq : P.info? elem with
  | none => simp [hq] at hs
  | some i =>
    simp [Builtin.copy_, run_underlying hu, Builtin.lenOf, Builtin.firstCells, sizeOf, typeInfo, hq]
    rw [htk, hst]
    simp [Result.andThen, splice]
theorem p512Len : Try.prog.arrayLen 130 = 512 := by kernel_rfl
theorem p512Und : Try.prog.underlying 130 = some (.array (Try.prog.arrayLen 130) (Try.prog.elem 130)) := by kernel_rfl
theorem p512Size (W : World) : (sizeOf (Try.prog.elem 130)).run Try.prog W = .ok 1 W := by
  have h : (Try.prog.info? (Try.prog.elem 130)).map (·.size) = some 1 := by kernel_rfl
  cases hq : Try.prog.info? (Try.prog.elem 130) with
  | none => simp [hq] at h
  | some i => simp [sizeOf, typeInfo, hq] at h ⊢; exact h
theorem sl512all (h o : Nat) (W : World) : (Instr.sliceAt 130 (.pointer (some ⟨h, o, none⟩)) none none none).run Try.prog W = .ok (.slice (some ⟨h, o, none⟩) 512 512) W := by
  rw [run_sliceAt_array_all W 130 _ p512Und, p512Size]
  simp only [Result.andThen_ok, slicedAt, p512Len]
  rw [if_neg (by omega), Addr.add_mid]
  rfl
theorem sl512to (h o n : Nat) (hn : n ≤ 512) (W : World) : (Instr.sliceAt 130 (.pointer (some ⟨h, o, none⟩)) none (some (.int .i64 (n : Int))) none).run Try.prog W = .ok (.slice (some ⟨h, o, none⟩) n 512) W := by
  rw [run_sliceAt_array_h W 130 _ p512Und .i64 n (by omega) (by rw [p512Len]; omega), p512Size]
  simp only [Result.andThen_ok, slicedAt, p512Len, Int.toNat_natCast]
  rw [if_neg (by omega), Addr.add_mid]
  rfl
def strLen : Value → Nat
  | .string s => s.size
  | _ => 0
theorem list_size (s : ByteArray) : s.data.toList.length = s.size := by rw [Array.length_toList]; rfl
theorem extract_drop (s : ByteArray) (n : Nat) : (s.extract n s.size).data.toList = s.data.toList.drop n := by
  rw [ByteArray.data_extract, Array.toList_extract, List.extract, ← list_size]
  exact List.take_of_length_le (by simp)
set_option maxRecDepth 100000 in
set_option maxHeartbeats 1000000 in
theorem dText (h : Nat) (l : List UInt8) (s : ByteArray) (w : World) (hh : Hs w h l) (hb : l.length + s.size ≤ 4611686018427387904) (hs : s.size ≤ 140737488355328) :
    Calls Try.prog 79 #[.pointer (some ⟨h, 0, none⟩), .string s] w fun e w' => e = .returned (.tuple #[]) ∧ Hs w' h (l ++ s.data.toList) ∧ U1 w w' h := by
  obtain ⟨b, hbw⟩ : ∃ b, b = w.heap.size := ⟨_, rfl⟩
  have HBW := hide hbw
  have HH := hide hh
  have HB0 := hide hb
  have hlt0 := hh.lt
  clear hh hbw hb
  have infoU : (Try.prog.info? 5).map (·.size) = some 1 := by kernel_rfl
  go_enter Try.func79, Try.ntmps79
  go_wp2_with (refine wpList_alloc_row (by rfl) 130 (by rfl) (some 4) (by rfl) b (by exact (unhide HBW).symm) Z512 zeroP ?_; intro W1 HR1 HB1 HS1; simp only [Act.put, List.setIfInBounds_toArray, List.set_cons_zero, List.set_cons_succ])
  go_loopw [1] (fun v wr => ∃ (k : Nat) (S : ByteArray), v = .string S ∧ S.size ≤ 140737488355328 ∧ Hid (S.data.toList = s.data.toList.drop k ∧ k + S.size = s.size) ∧ Hid ((∃ cur : Array Value, wr.heap[b]? = some (.cells cur 130 (0, 0)) ∧ cur.size = 512) ∧ Hs wr h (l ++ s.data.toList.take k) ∧ U1 w wr h)) (fun v _ => strLen v)
  case atStart =>
    have h1 := unhide HB1
    rw [unhide HBW] at h1
    exact ⟨0, s, rfl, hs, hide ⟨by simp, by omega⟩, hide ⟨⟨Z512, unhide HR1, rfl⟩, by simpa using (unhide HH).below h1, U1.below' h1⟩⟩
  case round =>
    obtain ⟨k, S, rfl, hS, HK, HI⟩ := hrel
    clear HR1 HB1 HS1 HH
    by_cases h0 : S.size = 0
    · have h0i : ¬ (0 : Int) < (S.size : Int) := by omega
      go_wp2
      go_returns
      have hk : k = s.size := by have := (unhide HK).2; omega
      refine ⟨rfl, ?_, (unhide HI).2.2⟩
      have := (unhide HI).2.1
      rwa [List.take_of_length_le (by rw [list_size]; omega)] at this
    · have h0i : (0 : Int) < (S.size : Int) := by omega
      obtain ⟨n, hn⟩ : ∃ n, n = Nat.min S.size 512 := ⟨_, rfl⟩
      have hn5 : n ≤ 512 := by rw [hn]; exact Nat.min_le_right _ _
      have hnS : n ≤ S.size := by rw [hn]; exact Nat.min_le_left _ _
      have hn0 : 0 < n := by rw [hn]; exact Nat.lt_min.2 ⟨by omega, by omega⟩
      obtain ⟨cur, hrow, hcs⟩ := (unhide HI).1
      have hcp := copy_str (P := Try.prog) wr 81 9 3 5 b 0 512 512 S cur 130 Try.underlying81 infoU hrow (by rw [← hn]; omega)
      rw [← hn] at hcp
      have hlen : (S.data.toList.take n).length = n := by rw [List.length_take, list_size]; omega
      have hrow2 := heapRow_same hrow (splice cur.toList 0 (Lib.byteCells (S.data.toList.take n))).toArray
      have hu2 : U1 wr (wr.setRow b (splice cur.toList 0 (Lib.byteCells (S.data.toList.take n))).toArray) b := U1.row _
      have hcs2 : (splice cur.toList 0 (Lib.byteCells (S.data.toList.take n))).toArray.size = 512 := by
        rw [List.size_toArray, splice_len _ _ _ (by rw [byteCells_len, hlen, Array.length_toList]; omega), Array.length_toList, hcs]
      have htk := splice_take cur.toList 0 (Lib.byteCells (S.data.toList.take n)) (by rw [byteCells_len, hlen, Array.length_toList]; omega)
      rw [Nat.zero_add, List.take_zero, List.nil_append, byteCells_len, hlen] at htk
      have htk2 : (splice cur.toList 0 (Lib.byteCells (S.data.toList.take n))).toArray.toList.take n = Lib.byteCells (S.data.toList.take n) := htk
      clear htk
      generalize (splice cur.toList 0 (Lib.byteCells (S.data.toList.take n))).toArray = cur2 at *
      have hne : b ≠ h := by have := unhide HBW; omega
      have hh2 := (unhide HI).2.1.u1 hu2 (Ne.symm hne)
      have HFU := hide ((unhide HI).2.2.then_new hu2 (by rw [unhide HBW]; exact Nat.le_refl _))
      have hsrc : Src (wr.setRow b cur2) h (S.data.toList.take n) (some ⟨b, 0, none⟩) := by
        refine fun _ => ⟨b, 0, rfl, hne, fun j hj => ?_⟩
        have hjn : j < n := by rwa [hlen] at hj
        have h4 : (cur2.toList.take n)[j]? = some (.int .u8 ((S.data.toList.take n)[j].toNat : Int)) := by rw [htk2, byteCells_at _ j hj]
        rw [List.getElem?_take_of_lt hjn, Array.getElem?_toList] at h4
        simp only [World.cell?, hrow2, Nat.zero_add]
        exact h4
      have HWR := hide (dWrite h _ (S.data.toList.take n) (some ⟨b, 0, none⟩) 512 _ hh2 hsrc (by rw [hlen]; exact hn5) (by
        rw [List.length_append, List.length_take, hlen, list_size]; have := unhide HB0; have := (unhide HK).2; omega))
      rw [hlen] at HWR
      have HROW2 : Hid ((wr.setRow b cur2).heap[b]? = some (.cells cur2 130 (0, 0)) ∧ cur2.size = 512) := ⟨hrow2, hcs2⟩
      have hbl : b < (wr.setRow b cur2).heap.size := (Array.getElem?_eq_some_iff.1 hrow2).1
      have hsa := sl512all b 0
      have hst := sl512to b 0 n hn5
      have hni : (n : Int) ≤ (S.size : Int) := by omega
      clear hrow hrow2 hu2 hh2 hcs hcs2 htk2 hsrc hlen hn
      generalize wr.setRow b cur2 = W2 at *
      go_wp2_with fail
      refine (unhide HWR).mono ?_
      rintro e W3 ⟨rfl, hh3, hu3⟩
      have HE : Hid ((S.extract n S.size).data.toList = s.data.toList.drop (k + n) ∧ k + n + (S.extract n S.size).size = s.size ∧ (S.extract n S.size).size + n = S.size) := by
        have e1 := extract_drop S n
        have e2 : (S.extract n S.size).size = S.size - n := by rw [← list_size, e1, List.length_drop, list_size]
        refine ⟨?_, ?_, ?_⟩
        · rw [e1, (unhide HK).1, List.drop_drop]
        · have := (unhide HK).2; omega
        · omega
      have HE2 : Hid (Hs W3 h (l ++ s.data.toList.take (k + n)) ∧ U1 w W3 h ∧ W3.heap[b]? = some (.cells cur2 130 (0, 0)) ∧ cur2.size = 512) := by
        refine ⟨?_, (unhide HFU).trans hu3, (hu3.block b hbl hne).trans (unhide HROW2).1, (unhide HROW2).2⟩
        rw [List.append_assoc, (unhide HK).1] at hh3
        rwa [List.take_add]
      clear hh3 hu3 HWR HROW2 HFU HI
      go_wp2
      generalize S.extract n S.size = S2 at *
      have hs2 : S2.size ≤ 140737488355328 := by have := (unhide HE).2.2; omega
      exact ⟨⟨k + n, S2, rfl, hs2, hide ⟨(unhide HE).1, (unhide HE).2.1⟩, hide ⟨⟨cur2, (unhide HE2).2.2⟩, (unhide HE2).1, (unhide HE2).2.1⟩⟩, by simp only [strLen]; have := (unhide HE).2.2; omega⟩
end
section
open Go.RowKit
theorem wpList_load_arr {P : Program} {ops : Array Oper} {rest : List Oper} {op : Oper} {a : Act} {w : World} {Q : Exit → Act → World → Prop} (hgd : op.guard = none) (ty : TypeId) (x : Operand) (ho : op.op = .load ty x) (d : Option Tmp) (hd : op.dst = d)
    (b o : Nat) (hx : a.eval x = .pointer (some ⟨b, o, none⟩)) (cs : Array Value) (n : Nat) (el : TypeId) (hc : w.rangeAt b o cs.toList)
    (hu : P.underlying ty = some (.array n el)) (hi : (P.info? ty).map (·.size) = some cs.size)
    (h : wpList P ops Q rest (a.put d (.agg cs)) w) : wpList P ops Q (op :: rest) a w :=
  wpList_plain hgd fun _ hK => wp_load_arr ty x ho d hd b o hx cs n el hc hu hi (hK _ _ h)
theorem OwnB.src {w u : World} {v : Value} {bs : List UInt8} (h : OwnB w u v bs) (h0 : 0 < bs.length) : ∃ g cap, v = .slice (some ⟨g, 0, none⟩) bs.length cap ∧ w.heap.size ≤ g ∧ bs.length ≤ cap ∧ ∀ (j : Nat) (hj : j < bs.length), u.cell? ⟨g, 0 + j, none⟩ = some (.int .u8 (bs[j].toNat : Int)) := by
  rcases h.1.2 with ⟨_, h1⟩ | ⟨g, cap, cur, hv, hb, hg, hn, hm, hs, ht⟩
  · omega
  · refine ⟨g, cap, hv, hb, hn, fun j hj => ?_⟩
    have h4 : (cur.toList.take bs.length)[j]? = some (.int .u8 (bs[j].toNat : Int)) := by
      have : cur.toList.take (bs.length * 1) = Lib.byteCells bs := ht
      rw [Nat.mul_one] at this
      rw [this, byteCells_at bs j hj]
    rw [List.getElem?_take_of_lt hj, Array.getElem?_toList] at h4
    simp only [World.cell?, hg, Nat.zero_add]
    exact h4
theorem HC_one (s : Sha.St) (lf : List UInt8) (n : Nat) : (HC s lf n).toArray.all (·.oneCell') = true := by
  refine all_oneCell_toArray fun v hv => ?_
  simp only [HC, List.mem_append, List.mem_singleton] at hv
  rcases hv with hv | hv | rfl
  · simp [St8] at hv; rcases hv with rfl | rfl | rfl | rfl | rfl | rfl | rfl | rfl <;> rfl
  · exact byteCells_one lf v hv
  · rfl
def ofCells (l : List UInt8) : Array Value := (Lib.byteCells (Sha.of l)).toArray
theorem ofCells_size (l : List UInt8) : (ofCells l).size = 32 := by simp [ofCells, byteCells_len, Sha.of_length]
theorem ofCells_one (l : List UInt8) : (ofCells l).all (·.oneCell') = true := all_oneCell_toArray (byteCells_one _)
theorem ofCells_info (l : List UInt8) : (Try.prog.info? 71).map (·.size) = some (ofCells l).size := by rw [ofCells_size]; exact infoS
set_option maxRecDepth 100000 in
set_option maxHeartbeats 1000000 in
theorem dSum (h : Nat) (l : List UInt8) (w : World) (hh : Hs w h l) (hb : l.length ≤ 4611686018427000000) : Calls Try.prog 80 #[.pointer (some ⟨h, 0, none⟩)] w fun e w' => e = .returned (.agg (ofCells l)) ∧ Below w.heap.size w w' := by
  obtain ⟨b, hbw⟩ : ∃ b, b = w.heap.size := ⟨_, rfl⟩
  have HBW := hide hbw
  obtain ⟨lf, ha, ht⟩ := hh.at'
  have HA0 := hide ha
  have HT := hide ht
  have hlt := ha.lt
  obtain ⟨n, hn⟩ : ∃ n, n = l.length := ⟨_, rfl⟩
  rw [← hn] at HA0
  have HN := hide hn
  obtain ⟨cs, hcs⟩ : ∃ cs, cs = (HC (Sha.absorb l) lf n).toArray := ⟨_, rfl⟩
  have HCS := hide hcs
  have hsz : cs.size = 73 := by rw [hcs, List.size_toArray, HC_len, ha.len]
  have hone : cs.all (·.oneCell') = true := by rw [hcs]; exact HC_one _ _ _
  have hi : (Try.prog.info? 129).map (·.size) = some cs.size := by rw [hsz, infoH]
  have hz : Z73.size = cs.size := by rw [hsz]; rfl
  obtain ⟨fs, hu⟩ := undH
  have HU := hide hu
  have hus := Try.underlying71
  have HB0 := hide hb
  clear hu hsz ha ht hh hbw hcs hn hb
  go_enter Try.func80, Try.ntmps80
  go_wp2_with (first | (refine wpList_alloc_row (by rfl) 71 (by rfl) (some 2) (by rfl) b (by exact (unhide HBW).symm) Z32 zeroS ?_; intro W1 HR1 HB1 HS1; have HL1 : Hid (W1.heap[h]? = some (.cells cs 129 (0, 0))) := (by exact ((unhide HB1).block h (by have := unhide HBW; omega)).trans (by rw [unhide HCS]; exact (unhide HA0).row))) | (refine wpList_load_row rfl 129 (.tmp 8) rfl h rfl 129 cs (0, 0) _ (unhide HL1) (unhide HU) rfl hi ?_) | (refine wpList_alloc_row (by rfl) 129 (by rfl) (some 3) (by rfl) (b + 1) (by exact unhide HS1) Z73 zeroH ?_; intro W2 HR2 HB2 HS2) | (refine wpList_store_u1 rfl 129 (.tmp 3) (.tmp 9) rfl (b + 1) cs rfl rfl 129 Z73 (unhide HR2) hi hz hone ?_; intro W3 HR3 HU3; have HK3 : Hid (∀ k, k < b + 1 → W3.heap[k]? = W1.heap[k]?) := (by exact hide fun k hk => ((unhide HU3).block k (by have := unhide HS2; omega) (by omega)).trans ((unhide HB2).block k hk)); have hc3 : W3.cell? ⟨h, 72, none⟩ = some (.int .u64 (n : Int)) := (by exact (HA.keep (unhide HA0) (((unhide HK3) h (by have := unhide HBW; omega)).trans ((unhide HB1).block h (by have := unhide HBW; omega)))).cnt)) )
  have HH3 : Hid (Hs W3 (b + 1) l) := ⟨lf, ⟨by rw [unhide HR3, unhide HCS, unhide HN], (unhide HA0).len⟩, unhide HT⟩
  have HB3 : Hid (Below b w W3 ∧ W3.heap[b]? = some (.cells Z32 71 (0, 0)) ∧ b + 2 ≤ W3.heap.size) := by
    refine ⟨((unhide HB1).trans ((unhide HB2).mono (by omega))).trans ((unhide HU3).toBelow (by have := unhide HS2; omega) (by omega)), ?_, ?_⟩
    · rw [(unhide HK3) b (by omega)]; exact unhide HR1
    · have := (unhide HU3).size; have := unhide HS2; omega
  clear HR1 HB1 HS1 HL1 HR2 HB2 HS2 HR3 HU3 HK3
  refine (dFill n _).mono ?_
  rintro e W4 ⟨v, rfl, ho⟩
  rw [unhide HN] at ho
  obtain ⟨g, cap, rfl, hg, hcap, hsrc⟩ := ho.src (by rw [Sha.fill_len]; omega)
  have hb4 := ho.2
  have HH4 := hide ((unhide HH3).below hb4)
  have HB4 : Hid (Below b w W4 ∧ W4.heap[b]? = some (.cells Z32 71 (0, 0)) ∧ b + 2 ≤ W4.heap.size) := by
    have h3 := unhide HB3
    refine ⟨h3.1.trans (hb4.mono (by omega)), (hb4.block b (by omega)).trans h3.2.1, by have := hb4.size; omega⟩
  have hsrc2 : Src W4 (b + 1) (Sha.fill l.length) (some ⟨g, 0, none⟩) := fun _ => ⟨g, 0, rfl, by have := (unhide HB3).2.2; omega, hsrc⟩
  have HWR := hide (dWrite (b + 1) l (Sha.fill l.length) (some ⟨g, 0, none⟩) cap W4 (unhide HH4) hsrc2 hcap (by rw [Sha.fill_len]; have := unhide HB0; omega))
  clear ho hsrc hb4 hsrc2 HH3 HB3 hc3
  go_wp2_with fail
  refine (unhide HWR).mono ?_
  rintro e W5 ⟨rfl, hh5, hu5⟩
  obtain ⟨lf5, ha5, ht5⟩ := hh5.at'
  have hst := ha5.st
  have HB5 : Hid (Below b w W5 ∧ W5.heap[b]? = some (.cells Z32 71 (0, 0)) ∧ b + 2 ≤ W5.heap.size) := by
    have h4 := unhide HB4
    refine ⟨h4.1.trans (hu5.toBelow (by omega) (by omega)), (hu5.block b (by omega) (by omega)).trans h4.2.1, by have := hu5.size; omega⟩
  clear hh5 hu5 ht5 ha5 HWR HB4 HH4
  have HTO := hide (fun u => dTold (Sha.absorb (l ++ Sha.fill l.length)) (Ok.absorb _) u)
  have HST := hide hst
  clear hst
  go_wp2_with (refine wpList_load_arr rfl 90 (.tmp 16) rfl (some 17) rfl (b + 1) 0 rfl (St8 (Sha.absorb (l ++ Sha.fill l.length))) _ _ (unhide HST) Try.underlying90 info8 ?_)
  refine ((unhide HTO) _).mono ?_
  rintro e W6 ⟨rfl, hb6⟩
  have h6 : W6.heap[b]? = some (.cells Z32 71 (0, 0)) := (hb6.block b (by have := (unhide HB5).2.2; omega)).trans (unhide HB5).2.1
  have HB6 := hide ((unhide HB5).1.trans (hb6.mono (by have := (unhide HB5).2.2; omega)))
  have HS6 : Hid (b + 2 ≤ W6.heap.size) := hide (by have := (unhide HB5).2.2; have := hb6.size; omega)
  clear hb6
  have hsi := ofCells_info l
  go_wp2_with (refine wpList_store_u1 rfl 71 (.tmp 2) (.tmp 18) rfl b (ofCells l) rfl rfl 71 Z32 h6 hsi (by rw [ofCells_size]; rfl) (ofCells_one l) ?_; intro W7 HR7 HU7)
  refine bodyPost_ret (results_cell_row rfl _ _ b 71 (ofCells l) (0, 0) _ rfl (unhide HR7) hus rfl hsi) rfl ?_
  have hbw := unhide HBW
  refine ⟨rfl, ?_⟩
  rw [← hbw]
  exact (unhide HB6).trans ((unhide HU7).toBelow (by have := unhide HS6; omega) (Nat.le_refl _))
end
section
open Go.RowKit
set_option maxRecDepth 100000 in
set_option maxHeartbeats 1000000 in
theorem dOf (s : ByteArray) (hs : s.size ≤ 140737488355328) (w : World) : Calls Try.prog 66 #[.string s] w fun e w' => e = .returned (.agg (ofCells s.data.toList)) ∧ Below w.heap.size w w' := by
  obtain ⟨b, hbw⟩ : ∃ b, b = w.heap.size := ⟨_, rfl⟩
  have HBW := hide hbw
  clear hbw
  have hus := Try.underlying71
  have hl := list_size s
  have HT := hide (fun (h : Nat) (u : World) (hh : Hs u h []) => dText h [] s u hh (by simp; omega) hs)
  have HS := hide (fun (h : Nat) (u : World) (hh : Hs u h ([] ++ s.data.toList)) => dSum h _ u hh (by simp; omega))
  clear hl
  go_enter Try.func66, Try.ntmps66
  go_wp2_with (refine wpList_alloc_row (by rfl) 71 (by rfl) (some 2) (by rfl) b (by exact (unhide HBW).symm) Z32 zeroS ?_; intro W1 HR1 HB1 HS1)
  refine (dNew _).mono ?_
  rintro e W2 ⟨h, rfl, hge, hh, hb2⟩
  have HH := hide hh
  have HB2 : Hid (Below b w W2 ∧ W2.heap[b]? = some (.cells Z32 71 (0, 0)) ∧ b + 1 ≤ h ∧ h < W2.heap.size) := by
    have h1 := unhide HS1
    refine ⟨(unhide HB1).trans (hb2.mono (by omega)), (hb2.block b (by omega)).trans (unhide HR1), by omega, hh.lt⟩
  clear hh hge hb2 HR1 HB1 HS1
  go_wp2_with fail
  refine (unhide HT h _ (unhide HH)).mono ?_
  rintro e W3 ⟨rfl, hh, hu⟩
  have HH3 := hide hh
  have HB3 : Hid (Below b w W3 ∧ W3.heap[b]? = some (.cells Z32 71 (0, 0)) ∧ b < W3.heap.size) := by
    have h2 := unhide HB2
    refine ⟨h2.1.trans (hu.toBelow (by omega) (by omega)), (hu.block b (by omega) (by omega)).trans h2.2.1, by have := hu.size; omega⟩
  clear hh hu HH HB2
  go_wp2_with fail
  refine (unhide HS h _ (unhide HH3)).mono ?_
  rintro e W4 ⟨rfl, hb4⟩
  rw [List.nil_append]
  have h4 : W4.heap[b]? = some (.cells Z32 71 (0, 0)) := (hb4.block b (unhide HB3).2.2).trans (unhide HB3).2.1
  have HB4 : Hid (Below b w W4 ∧ b < W4.heap.size) := by
    have h3 := unhide HB3
    exact ⟨h3.1.trans (hb4.mono (by omega)), by have := hb4.size; omega⟩
  clear hb4 HB3 HH3 HT HS
  have hsi := ofCells_info s.data.toList
  go_wp2_with (refine wpList_store_u1 rfl 71 (.tmp 2) (.tmp 9) rfl b (ofCells s.data.toList) rfl rfl 71 Z32 h4 hsi (by rw [ofCells_size]; rfl) (ofCells_one _) ?_; intro W7 HR7 HU7)
  refine bodyPost_ret (results_cell_row rfl _ _ b 71 (ofCells s.data.toList) (0, 0) _ rfl (unhide HR7) hus rfl hsi) rfl ?_
  have hbw := unhide HBW
  refine ⟨rfl, ?_⟩
  rw [← hbw]
  exact (unhide HB4).1.trans ((unhide HU7).toBelow (by have := (unhide HB4).2; omega) (Nat.le_refl _))
theorem sumLen : Try.prog.arrayLen 71 = 32 := by kernel_rfl
theorem sumUnd : Try.prog.underlying 71 = some (.array (Try.prog.arrayLen 71) (Try.prog.elem 71)) := by kernel_rfl
theorem sumSize (W : World) : (sizeOf (Try.prog.elem 71)).run Try.prog W = .ok 1 W := by
  have h : (Try.prog.info? (Try.prog.elem 71)).map (·.size) = some 1 := by kernel_rfl
  cases hq : Try.prog.info? (Try.prog.elem 71) with
  | none => simp [hq] at h
  | some i => simp [sizeOf, typeInfo, hq] at h ⊢; exact h
theorem slSumTo (h n : Nat) (hn : n ≤ 32) (W : World) : (Instr.sliceAt 71 (.pointer (some ⟨h, 0, none⟩)) none (some (.int .i64 (n : Int))) none).run Try.prog W = .ok (.slice (some ⟨h, 0, none⟩) n 32) W := by
  rw [run_sliceAt_array_h W 71 _ sumUnd .i64 n (by omega) (by rw [sumLen]; omega), sumSize]
  simp only [Result.andThen_ok, slicedAt, sumLen, Int.toNat_natCast]
  rw [if_neg (by omega), Addr.add_mid]
  rfl
/-- bytes at the head of a row, as a text -/
theorem conv_front {u : World} {g : Nat} {cells : Array Value} {t : TypeId} (hg : u.heap[g]? = some (.cells cells t (0, 0))) (bs : List UInt8) (n cap : Nat) (hn : bs.length = n) (hc : cells.toList.take n = Lib.byteCells bs) :
    (convert 81 9 (.slice (some ⟨g, 0, none⟩) n cap)).run Try.prog u = .ok (.string ⟨bs.toArray⟩) u := by
  subst hn
  refine run_convert_bytes_back u 81 9 5 ⟨g, 0, none⟩ cap bs Try.underlying81 Try.underlying5 Try.underlying9 fun j hj => ?_
  have e : (⟨g, 0, none⟩ : Addr).add j = ⟨g, j, none⟩ := by rw [Addr.add_mid, Nat.zero_add]
  have h4 : (cells.toList.take bs.length)[j]? = some (.int .u8 (bs[j].toNat : Int)) := by rw [hc, byteCells_at bs j hj]
  rw [List.getElem?_take_of_lt hj, Array.getElem?_toList] at h4
  rw [e]
  simp [World.cell?, hg, h4]
def cutS (s : ByteArray) (n : Nat) : ByteArray := ⟨((Sha.of s.data.toList).take n).toArray⟩
theorem ofCells_take (l : List UInt8) (n : Nat) : (ofCells l).toList.take n = Lib.byteCells ((Sha.of l).take n) := by simp [ofCells, Lib.byteCells, List.map_take]
set_option maxRecDepth 100000 in
set_option maxHeartbeats 1000000 in
theorem dCut (s : ByteArray) (n : Nat) (hs : s.size ≤ 140737488355328) (hn : 1 ≤ n) (hn2 : n ≤ 32) (w : World) : Calls Try.prog 46 #[.string s, .int .i64 (n : Int)] w fun e w' => e = .returned (.tuple #[.string (cutS s n), .int .i64 0]) ∧ Below w.heap.size w w' := by
  have HO := hide (fun u => dOf s hs u)
  have hni : ¬ ((n : Int) < 1) := by omega
  have hni2 : ¬ ((32 : Int) < (n : Int)) := by omega
  have hsi := ofCells_info s.data.toList
  go_enter Try.func46, Try.ntmps46
  go_wp2_with fail
  refine (unhide HO _).mono ?_
  rintro e W1 ⟨rfl, hb1⟩
  have HB1 := hide hb1
  clear hb1
  have hsl := slSumTo W1.heap.size n hn2
  go_wp2_with (first | (refine wpList_alloc_row (by rfl) 71 (by rfl) (some 6) (by rfl) W1.heap.size (by rfl) Z32 zeroS ?_; intro W2 HR2 HB2 HS2) | (refine wpList_store_u1 rfl 71 (.tmp 6) (.tmp 14) rfl W1.heap.size (ofCells s.data.toList) rfl rfl 71 Z32 (unhide HR2) hsi (by rw [ofCells_size]; rfl) (ofCells_one _) ?_; intro W3 HR3 HU3; have hcv := conv_front (unhide HR3) ((Sha.of s.data.toList).take n) n 32 (by rw [List.length_take, Sha.of_length]; omega) (ofCells_take _ _)))
  go_ret2
  exact ⟨rfl, ((unhide HB1).trans ((unhide HB2).mono (unhide HB1).size)).trans ((unhide HU3).toBelow (by have := unhide HS2; have := (unhide HB1).size; omega) (unhide HB1).size)⟩
theorem dCutNo (s : ByteArray) (n : Int) (hn : n < 1 ∨ 32 < n) (w : World) : Calls Try.prog 46 #[.string s, .int .i64 n] w fun e w' => e = .returned (.tuple #[.string ⟨#[]⟩, .int .i64 1]) ∧ w' = w := by
  rcases hn with hn | hn
  · go_enter Try.func46, Try.ntmps46
    go_wp2
    go_ret2
    exact ⟨rfl, rfl⟩
  · have h2 : ¬ n < 1 := by omega
    go_enter Try.func46, Try.ntmps46
    go_wp2
    go_ret2
    exact ⟨rfl, rfl⟩
end
section
open Go.RowKit
/-- the byte of two digits -/
def vb (c : Nat → Nat) (j : Nat) : Nat := 16 * (dg (c (2 * j))).toNat + (dg (c (2 * j + 1))).toNat
def ch (s : ByteArray) (j : Nat) : Nat := (s.data.toList.getD j 0).toNat
end
section
open Go.RowKit
theorem cutS_size (s : ByteArray) (n : Nat) (hn : n ≤ 32) : (cutS s n).size = n := by
  rw [← list_size]
  show (((Sha.of s.data.toList).take n).toArray.toList).length = n
  rw [List.toList_toArray, List.length_take, Sha.of_length]
  omega
theorem cutS_front (s : ByteArray) (n m : Nat) (h : n ≤ m) : (cutS s m).extract 0 n = cutS s n := by
  have e : ((cutS s m).extract 0 n).data = (cutS s n).data := by
    rw [ByteArray.data_extract]
    apply Array.toList_inj.1
    rw [Array.toList_extract, List.extract]
    show List.take (n - 0) (List.drop 0 ((Sha.of s.data.toList).take m).toArray.toList) = ((Sha.of s.data.toList).take n).toArray.toList
    rw [List.toList_toArray, List.toList_toArray, List.drop_zero, Nat.sub_zero, List.take_take, Nat.min_eq_left h]
  exact congrArg ByteArray.mk e
end
end Go.Proofs.Ytopabadnbelegaa.D
