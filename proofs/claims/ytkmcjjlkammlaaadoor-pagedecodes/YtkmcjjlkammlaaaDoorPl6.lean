/- Bytes that are lent, marks behind them: the page. -/
import Derived.Test.YtkmcjjlkammlaaaDoorPn
import Derived.Lib.ConvBytes
import Derived.Lib.AppendZeros
import Derived.Laws.CopyOwn
namespace Go.Proofs.YtkmcjjlkammlaaaDoor
open Go.RowKit

/-- what is done to the block g, and to new ones, alone -/
structure U1 (w w' : World) (g : Nat) : Prop where
  os : w'.os = w.os
  tape : w'.tape = w.tape
  output : w'.output = w.output
  size : w.heap.size ≤ w'.heap.size
  block : ∀ k, k < w.heap.size → k ≠ g → w'.heap[k]? = w.heap[k]?
theorem U1.refl (w : World) (g : Nat) : U1 w w g := ⟨rfl, rfl, rfl, Nat.le_refl _, fun _ _ _ => rfl⟩
theorem U1.set {w w' : World} {g : Nat} (h : U1 w w' g) (k : Nat) (v : Value) : U1 w (w'.setCell ⟨g, k, none⟩ v) g :=
  ⟨h.os, h.tape, h.output, by simpa [World.setCell] using h.size, fun q hq hn => (Deep.blk_setCell_other w' ⟨g, k, none⟩ v q hn).trans (h.block q hq hn)⟩
theorem U1.trans {a b c : World} {g : Nat} (h : U1 a b g) (k : U1 b c g) : U1 a c g :=
  ⟨k.os.trans h.os, k.tape.trans h.tape, k.output.trans h.output, Nat.le_trans h.size k.size, fun q hq hn => (k.block q (Nat.lt_of_lt_of_le hq h.size) hn).trans (h.block q hq hn)⟩
theorem U1.below' {a b : World} {g : Nat} (h : Below a.heap.size a b) : U1 a b g := ⟨h.os, h.tape, h.output, h.size, fun q hq _ => h.block q hq⟩
theorem U1.toBelow {w w' : World} {g B : Nat} (h : U1 w w' g) (hB : B ≤ w.heap.size) (hg : B ≤ g) : Below B w w' := ⟨h.os, h.tape, h.output, h.size, fun k hk => h.block k (by omega) (by omega)⟩
theorem U1.then_new {w u u' : World} {h b : Nat} (k : U1 w u h) (k' : U1 u u' b) (hb : w.heap.size ≤ b) : U1 w u' h :=
  ⟨k'.os.trans k.os, k'.tape.trans k.tape, k'.output.trans k.output, Nat.le_trans k.size k'.size, fun q hq hn => (k'.block q (Nat.lt_of_lt_of_le hq k.size) (by omega)).trans (k.block q hq hn)⟩
theorem U1.drewN {a b : World} {g : Nat} (h : U1 a b g) (n : Nat) : U1 a (b.drewN n) g := ⟨h.os, h.tape, h.output, h.size, h.block⟩
theorem U1.drew {a b : World} {g : Nat} (h : U1 a b g) : U1 a b.drew g := ⟨h.os, h.tape, h.output, h.size, h.block⟩
theorem U1.row {w : World} {g : Nat} (cs : Array Value) : U1 w (w.setRow g cs) g := ⟨rfl, rfl, rfl, by simp [World.setRow], fun k _ hn => heapRow_other w g k cs hn⟩
/-- cells laid over those of a block, the block known whole -/
theorem heap_setCells {g : Nat} {t : TypeId} {fr : Nat × Nat} : ∀ (vs : List Value) (o : Nat) (w : World) (cur : List Value), w.heap[g]? = some (.cells cur.toArray t fr) → o + vs.length ≤ cur.length →
    (w.setCells g o vs).heap[g]? = some (.cells (splice cur o vs).toArray t fr)
  | [], o, w, cur, h, _ => by simpa [World.setCells, splice] using h
  | v :: r, o, w, cur, h, hl => by
    simp only [List.length_cons] at hl
    rw [World.setCells]
    have h1 := heapCell_same h o v
    rw [List.setIfInBounds_toArray] at h1
    rw [heap_setCells r (o + 1) _ (cur.set o v) h1 (by simp; omega)]
    congr 2
    unfold splice
    rw [List.take_set, List.take_succ_eq_append_getElem (by omega)]
    simp only [List.length_cons]
    rw [List.set_append_right _ _ (by simp; omega), List.drop_set_of_lt (by omega)]
    have e : o - (cur.take o).length = 0 := by simp; omega
    rw [e, show o + 1 + r.length = o + (r.length + 1) from by omega]
    simp
theorem U1.cells {w : World} {g : Nat} : ∀ (vs : List Value) (o : Nat) (w' : World), U1 w w' g → U1 w (w'.setCells g o vs) g
  | [], _, _, h => h
  | v :: r, o, _, h => U1.cells r (o + 1) _ (h.set o v)
theorem bCellsLen (l : List UInt8) : (Lib.byteCells l).length = l.length := by simp [Lib.byteCells]
theorem bCellsAt (l : List UInt8) (j : Nat) (hj : j < l.length) : (Lib.byteCells l)[j]? = some (.int .u8 (l[j].toNat : Int)) := by simp [Lib.byteCells, hj]
theorem bCellsOne (l : List UInt8) : ∀ v ∈ Lib.byteCells l, v.oneCell' = true := by
  intro v hv
  simp only [Lib.byteCells, List.mem_map] at hv
  obtain ⟨x, _, rfl⟩ := hv
  rfl
theorem splice_len {α : Type} (L : List α) (off : Nat) (cs : List α) (h : off + cs.length ≤ L.length) : (splice L off cs).length = L.length := length_splice L off cs h
theorem splice_take {α : Type} (L : List α) (off : Nat) (cs : List α) (h : off + cs.length ≤ L.length) : (splice L off cs).take (off + cs.length) = L.take off ++ cs := by
  unfold splice
  rw [← List.append_assoc, List.take_append_of_le_length (by simp; omega)]
  exact List.take_of_length_le (by simp; omega)
theorem U1.fresh {w w' : World} {o : Obj} (h : U1 (w.alloc o) w' w.heap.size) : Below w.heap.size w w' :=
  ⟨h.os, h.tape, h.output, by have := h.size; simp at this; omega, fun k hk => by
    rw [h.block k (by simp; omega) (by omega), Deep.blk_alloc_lt _ _ _ hk]⟩
theorem bytesUnd : Tryd.prog.underlying 29 = some (.slice (Tryd.prog.elem 29)) := by kernel_rfl
theorem bytesSize (W : World) : (sizeOf (Tryd.prog.elem 29)).run Tryd.prog W = .ok 1 W := by
  have h : (Tryd.prog.info? (Tryd.prog.elem 29)).map (·.size) = some 1 := by kernel_rfl
  cases hq : Tryd.prog.info? (Tryd.prog.elem 29) with
  | none => simp [hq] at h
  | some i => simp [sizeOf, typeInfo, hq] at h ⊢; exact h
theorem infoU8 : (Tryd.prog.info? 5).map (fun i => (i.zero, i.size, i.bytes)) = some (some (.int .u8 0), 1, 1) := by kernel_rfl
/-- a row of bytes, new since w -/
structure BR (w u : World) (g cap : Nat) (bs : List UInt8) : Prop where
  row : ∃ cur fr, u.heap[g]? = some (.cells cur 5 fr) ∧ cur.size = cap ∧ cur.toList.take bs.length = Lib.byteCells bs ∧ ∀ j, j < cap → u.frozen? ⟨g, j, none⟩ = false
  ge : w.heap.size ≤ g
  le : bs.length ≤ cap
  max : cap ≤ maxLen
  bel : Below w.heap.size w u
theorem BR.lt {w u : World} {g cap : Nat} {bs : List UInt8} (h : BR w u g cap bs) : g < u.heap.size := by
  obtain ⟨cur, fr, h1, _⟩ := h.row
  exact (Array.getElem?_eq_some_iff.1 h1).1
theorem BR.cell {w u : World} {g cap : Nat} {bs : List UInt8} (h : BR w u g cap bs) (j : Nat) (hj : j < bs.length) : u.cell? ⟨g, j, none⟩ = some (.int .u8 (bs[j].toNat : Int)) := by
  obtain ⟨cur, fr, h1, h2, h3, _⟩ := h.row
  have h4 : (cur.toList.take bs.length)[j]? = some (.int .u8 (bs[j].toNat : Int)) := by rw [h3, bCellsAt bs j hj]
  rw [List.getElem?_take_of_lt hj, Array.getElem?_toList] at h4
  simp only [World.cell?, h1]
  exact h4
theorem frozen_of_block {u u' : World} {g j : Nat} (e : u'.heap[g]? = u.heap[g]?) : u'.frozen? ⟨g, j, none⟩ = u.frozen? ⟨g, j, none⟩ := by simp [World.frozen?, e]
theorem BR.keep {w u u' : World} {g cap : Nat} {bs : List UInt8} (h : BR w u g cap bs) (e : u'.heap[g]? = u.heap[g]?) (hb : Below w.heap.size w u') : BR w u' g cap bs := by
  obtain ⟨cur, fr, h1, h2, h3, h4⟩ := h.row
  exact ⟨⟨cur, fr, e.trans h1, h2, h3, fun j hj => (frozen_of_block e).trans (h4 j hj)⟩, h.ge, h.le, h.max, hb⟩
theorem BR.below {w u u' : World} {g cap : Nat} {bs : List UInt8} (h : BR w u g cap bs) (hb : Below u.heap.size u u') : BR w u' g cap bs := h.keep (hb.block g h.lt) (h.bel.trans (hb.mono h.bel.size))
theorem BR.alloc {w u : World} {g cap : Nat} {bs : List UInt8} (h : BR w u g cap bs) (o : Obj) : BR w (u.alloc o) g cap bs := h.below ((Below.refl _ _).alloc (Nat.le_refl _) _)
theorem BR.own {w u u' : World} {v : Value} {n : Nat} {bs : List UInt8} (h : u'.ownsRow u.heap.size 5 1 v n (Lib.byteCells bs)) (hn : n = bs.length) (h0 : 0 < bs.length) (hw : w.heap.size ≤ u.heap.size) (hb : Below w.heap.size w u') : ∃ g cap, v = .slice (some ⟨g, 0, none⟩) bs.length cap ∧ u.heap.size ≤ g ∧ BR w u' g cap bs := by
  subst hn
  rcases h.2 with ⟨_, h1⟩ | ⟨g, cap, cur, hv, hge, hg, hn, hm, hs, ht⟩
  · omega
  · refine ⟨g, cap, hv, hge, ⟨cur, (0, 0), hg, by omega, by simpa using ht, fun j _ => by simp [World.frozen?, hg]⟩, by omega, hn, hm, hb⟩
theorem BR.append {w u : World} {g cap : Nat} {bs : List UInt8} (h : BR w u g cap bs) (ty : TypeId) (ad : Addr) (c m : Nat) (q : List UInt8) (hm : m = q.length) (h0 : 0 < q.length)
    (hsrc : ∀ (j : Nat) (hj : j < q.length), u.cell? (ad.add j) = some (.int .u8 (q[j].toNat : Int))) (hby : bs.length + q.length ≤ 140737488355328) :
    ∃ g' cap' u', (Builtin.append_ #[29, 29] ty #[.slice (some ⟨g, 0, none⟩) bs.length cap, .slice (some ad) m c]).run Tryd.prog u = .ok (.slice (some ⟨g', 0, none⟩) (bs.length + q.length) cap') u' ∧ BR w u' g' cap' (bs ++ q) ∧ U1 u u' g ∧ (g' = g ∨ u.heap.size ≤ g') := by
  subst hm
  obtain ⟨i0, hi, hz0, hz1, hz2⟩ := info_parts infoU8
  have hnews : ∀ j x, (Lib.byteCells q)[j]? = some x → u.cell? (ad.add j) = some x := by
    intro j x hx
    have hj : j < q.length := by have := (List.getElem?_eq_some_iff.1 hx).1; rwa [bCellsLen] at this
    rw [bCellsAt q j hj] at hx
    rw [hsrc j hj, hx]
  obtain ⟨cur, fr, h1, h2, h3, h4⟩ := h.row
  have hle := h.le
  by_cases hroom : bs.length + q.length ≤ cap
  · have hr := run_append_room_cells (P := Tryd.prog) u 29 ty 5 i0 Tryd.underlying29 hi g 0 bs.length cap ad q.length c (Lib.byteCells q) (by rw [bCellsLen, hz1, Nat.mul_one]) hnews (bCellsOne q) hroom
      (fun j hj => by
        rw [bCellsLen] at hj
        have : bs.length + j < cur.size := by omega
        simp [World.cell?, h1, hz1, this]) (fun j hj => by rw [bCellsLen] at hj; rw [hz1]; simpa using h4 (bs.length + j) (by omega))
    rw [hz1, Nat.mul_one, Nat.zero_add] at hr
    have hcl0 : cur.toList.length = cap := (Array.length_toList).trans h2
    have hcl : bs.length + (Lib.byteCells q).length ≤ cur.toList.length := by rw [bCellsLen, hcl0]; exact hroom
    have h1' : u.heap[g]? = some (.cells cur.toList.toArray 5 fr) := by simpa using h1
    have hrow := heap_setCells (Lib.byteCells q) bs.length u cur.toList h1' hcl
    have hu : U1 u (u.setCells g bs.length (Lib.byteCells q)) g := U1.cells _ _ _ (U1.refl _ _)
    refine ⟨g, cap, _, hr, ⟨⟨_, fr, hrow, ?_, ?_, ?_⟩, h.ge, by simpa using hroom, h.max, h.bel.trans (hu.toBelow h.bel.size h.ge)⟩, hu, .inl rfl⟩
    · rw [List.size_toArray, splice_len _ _ _ hcl, hcl0]
    · have ht := splice_take cur.toList bs.length (Lib.byteCells q) hcl
      rw [bCellsLen] at ht
      rw [List.length_append, ht, h3]
      simp [Lib.byteCells]
    · intro j hj
      rw [World.frozen?_setCells]
      exact h4 j hj
  · obtain ⟨v', u', hr, ho, hgr⟩ := run_append_arg_grows (P := Tryd.prog) u 29 ty 5 i0 (.int .u8 0) 1 1 Tryd.underlying29 hi hz0 hz1 hz2 rfl (by decide) ⟨g, 0, none⟩ bs.length cap (Lib.byteCells bs) (by rw [bCellsLen, Nat.mul_one])
      (fun j x hx => by
        have hj : j < bs.length := by have := (List.getElem?_eq_some_iff.1 hx).1; rwa [bCellsLen] at this
        rw [bCellsAt bs j hj] at hx
        rw [Addr.add_mid, Nat.zero_add, h.cell j hj, hx]) ad q.length c (Lib.byteCells q) (by rw [bCellsLen, Nat.mul_one]) hnews (by omega) (by simp only [maxLen]; omega) (by omega)
    obtain ⟨g1, g2, g3, g4, g5⟩ := hgr
    have hbel : Below u.heap.size u u' := ⟨g1, g2, g3, g4, fun k hk => g5 k hk (by simp)⟩
    have ho' : u'.ownsRow u.heap.size 5 1 v' (bs.length + q.length) (Lib.byteCells (bs ++ q)) := by rw [show Lib.byteCells (bs ++ q) = Lib.byteCells bs ++ Lib.byteCells q from by simp [Lib.byteCells]]; exact ho
    obtain ⟨g', cap', rfl, hge, hbr⟩ := BR.own (w := w) ho' (by simp) (by simp; omega) h.bel.size (h.bel.trans (hbel.mono h.bel.size))
    rw [List.length_append] at hr
    exact ⟨g', cap', u', hr, hbr, U1.below' hbel, .inr hge⟩
/-- bytes that lie somewhere -/
def Lies (u : World) (ao : Option Addr) (bs : List UInt8) : Prop := 0 < bs.length → ∃ g o, ao = some ⟨g, o, none⟩ ∧ g < u.heap.size ∧ ∀ (j : Nat) (hj : j < bs.length), u.cell? ⟨g, o + j, none⟩ = some (.int .u8 (bs[j].toNat : Int))
theorem Lies.keep {u u' : World} {ao : Option Addr} {bs : List UInt8} {B : Nat} (h : Lies u ao bs) (hb : Below B u u') (hB : u.heap.size ≤ B) : Lies u' ao bs := fun h0 => by
  obtain ⟨g, o, h1, h2, h3⟩ := h h0
  exact ⟨g, o, h1, by have := hb.size; omega, fun j hj => (hb.cell (p := ⟨g, o + j, none⟩) (by show g < B; omega)).trans (h3 j hj)⟩
theorem Lies.below {u u' : World} {ao : Option Addr} {bs : List UInt8} (h : Lies u ao bs) (hb : Below u.heap.size u u') : Lies u' ao bs := h.keep hb (Nat.le_refl _)
theorem BR.lies {w u : World} {g cap : Nat} {bs : List UInt8} (h : BR w u g cap bs) : Lies u (some ⟨g, 0, none⟩) bs := fun _ => ⟨g, 0, rfl, h.lt, fun j hj => by rw [Nat.zero_add]; exact h.cell j hj⟩
theorem BR.front {w u : World} {g cap : Nat} {bs cs : List UInt8} (h : BR w u g cap (bs ++ cs)) : BR w u g cap bs := by
  obtain ⟨cur, fr, h1, h2, h3, h4⟩ := h.row
  refine ⟨⟨cur, fr, h1, h2, ?_, h4⟩, h.ge, by have := h.le; simp at this; omega, h.max, h.bel⟩
  have := congrArg (List.take bs.length) h3
  rw [List.take_take, Nat.min_eq_left (by simp)] at this
  rw [this]
  simp [Lib.byteCells]
theorem conv_liesE {u : World} {ao : Option Addr} {bs : List UInt8} (h : Lies u ao bs) (n cap : Nat) (hn : n = bs.length) : (convert 29 9 (.slice ao n cap)).run Tryd.prog u = .ok (.string ⟨bs.toArray⟩) u := by
  subst hn
  by_cases h0 : 0 < bs.length
  · obtain ⟨g, o, rfl, h2, h3⟩ := h h0
    refine run_convert_bytes_back u 29 9 5 ⟨g, o, none⟩ cap bs Tryd.underlying29 Tryd.underlying5 Tryd.underlying9 fun j hj => ?_
    rw [Addr.add_mid]
    exact h3 j hj
  · obtain rfl : bs = [] := List.eq_nil_of_length_eq_zero (by omega)
    cases ao with
    | none => simp [convert, run_underlying Tryd.underlying29, run_underlying Tryd.underlying5, run_underlying Tryd.underlying9, Conv.bytesToString]; rfl
    | some a => exact run_convert_bytes_back u 29 9 5 a cap [] Tryd.underlying29 Tryd.underlying5 Tryd.underlying9 fun j hj => absurd hj (by simp)
theorem append_empty (u : World) (ty : TypeId) (g n cap c : Nat) (ao : Option Addr) (hn : n ≤ cap) : (Builtin.append_ #[29, 29] ty #[.slice (some ⟨g, 0, none⟩) n cap, .slice ao 0 c]).run Tryd.prog u = .ok (.slice (some ⟨g, 0, none⟩) n cap) u := by
  obtain ⟨i0, hi, hz0, hz1, hz2⟩ := info_parts infoU8
  cases ao with
  | none => simp [Builtin.append_, run_underlying Tryd.underlying29, sizeOf, typeInfo, hi, Builtin.lenOf, hn, Builtin.firstCells, storeCells]
  | some a => exact run_append_room_cells (P := Tryd.prog) u 29 ty 5 i0 Tryd.underlying29 hi g 0 n cap a 0 c [] (by simp) (fun j x hx => by simp at hx) (fun x hx => by simp at hx) hn (fun j hj => absurd hj (Nat.not_lt_zero _)) (fun j hj => absurd hj (Nat.not_lt_zero _))
/-- append of whatever bytes -/
theorem BR.put {w u : World} {g cap : Nat} {bs : List UInt8} (h : BR w u g cap bs) (ty : TypeId) (ao : Option Addr) (c m : Nat) (q : List UInt8) (hm : m = q.length) (hsrc : Lies u ao q) (hby : bs.length + q.length ≤ 140737488355328) :
    ∃ g' cap' u', (Builtin.append_ #[29, 29] ty #[.slice (some ⟨g, 0, none⟩) bs.length cap, .slice ao m c]).run Tryd.prog u = .ok (.slice (some ⟨g', 0, none⟩) (bs.length + q.length) cap') u' ∧ BR w u' g' cap' (bs ++ q) ∧ U1 u u' g ∧ (g' = g ∨ u.heap.size ≤ g') := by
  by_cases h0 : 0 < q.length
  · obtain ⟨gs, o, rfl, h2, h3⟩ := hsrc h0
    exact h.append ty ⟨gs, o, none⟩ c m q hm h0 (fun j hj => by rw [Addr.add_mid]; exact h3 j hj) hby
  · obtain rfl : q = [] := List.eq_nil_of_length_eq_zero (by omega)
    subst hm
    refine ⟨g, cap, u, append_empty u ty g bs.length cap c ao h.le, by simpa using h, U1.refl _ _, .inl rfl⟩
/-- the marks -/
def mks (k : Nat) : List UInt8 := (List.range k).map fun i => UInt8.ofNat (150 + i)
theorem mks_succ (k : Nat) : mks (k + 1) = mks k ++ [UInt8.ofNat (150 + k)] := by simp [mks, List.range_succ]
theorem mks_length (k : Nat) : (mks k).length = k := by simp [mks]
theorem mks_at (k j : Nat) (hj : j < k) (hk : k ≤ 66) : ((mks k)[j]'(by rw [mks_length]; exact hj)).toNat = 150 + j := by
  simp only [mks, List.getElem_map, List.getElem_range]
  rw [UInt8.toNat_ofNat', Nat.mod_eq_of_lt (by omega)]
theorem BR.nothing (w : World) : BR w (w.alloc (.cells #[] 5)) w.heap.size 0 [] :=
  ⟨⟨#[], (0, 0), heap_alloc_new _ _, rfl, rfl, fun j hj => absurd hj (Nat.not_lt_zero _)⟩, Nat.le_refl _, Nat.le_refl _, by decide, (Below.refl _ _).alloc (Nat.le_refl _) _⟩
theorem cutToI (g o m c : Nat) (i : Nat) (hi : i ≤ c) (W : World) : (Instr.slice 29 (.slice (some ⟨g, o, none⟩) m c) none (some (.int .i64 (i : Int))) none).run Tryd.prog W = .ok (.slice (some ⟨g, o, none⟩) i c) W := by
  rw [run_slice_h W 29 _ _ _ bytesUnd .i64 i (by omega) (by omega), bytesSize]
  simp only [Result.andThen_ok, sliced, Int.toNat_natCast, Nat.sub_zero, Nat.zero_mul]
  by_cases h0 : c = 0
  · rw [if_pos h0]
  · rw [if_neg h0, Option.map_some, Addr.add_mid, Nat.add_zero]
set_option maxRecDepth 100000 in
set_option maxHeartbeats 1000000 in
theorem lLent (bs : List UInt8) (ao : Option Addr) (cap : Nat) (w : World) (hsrc : Lies w ao bs) (hl : bs.length ≤ 140737488355200) :
    Calls Tryd.prog 12 #[.slice ao bs.length cap] w fun e w' => ∃ g c, e = .returned (.slice (some ⟨g, 0, none⟩) bs.length c) ∧ BR w w' g c (bs ++ mks 66) := by
  obtain ⟨g1, c1, W1, hrun, hbr, _, _⟩ := (BR.nothing w).put 29 ao cap bs.length bs rfl (hsrc.below ((Below.refl _ _).alloc (Nat.le_refl _) _)) (by simp; omega)
  simp only [List.length_nil, Nat.zero_add, List.nil_append] at hrun hbr
  have HB1 := hide hbr
  have hli : (bs.length : Int) ≤ 140737488355200 := by omega
  clear hbr hsrc
  go_enter Tryd.func12, Tryd.ntmps12
  go_wp2_with (at_builtin; refine Lib.wpList_append_run _ rfl (.tmp 5) (.tmp 6) 29 29 rfl _ _ rfl rfl _ _ hrun ?_)
  go_loopw [3, 4] (fun vb vi wr => ∃ (k g c : Nat), k ≤ 66 ∧ vi = .int .i64 k ∧ vb = .slice (some ⟨g, 0, none⟩) (bs.length + k) c ∧ Hid (BR w wr g c (bs ++ mks k))) (fun _ vi _ => 66 - (intOf vi).toNat)
  case atStart => exact ⟨0, g1, c1, Nat.zero_le _, rfl, rfl, by simpa [mks] using HB1⟩
  case round =>
    clear HB1 hrun
    obtain ⟨k, g, c, hk, rfl, rfl, HI⟩ := hrel
    by_cases hlt : k < 66
    · have hki : (k : Int) < 66 := by omega
      have hblen : (bs ++ mks k).length = bs.length + k := by rw [List.length_append, mks_length]
      obtain ⟨x, hx⟩ : ∃ x, x = UInt8.ofNat (150 + k) := ⟨_, rfl⟩
      have hxn : (x.toNat : Int) = 150 + (k : Int) := by rw [hx, UInt8.toNat_ofNat', Nat.mod_eq_of_lt (by omega)]; omega
      obtain ⟨g', c', W5, hrun, hbr, hu1, hor⟩ := ((unhide HI).alloc (.cells #[.int .u8 (x.toNat : Int)] 5)).append 29 ⟨wr.heap.size, 0, none⟩ 1 1 [x] rfl (by simp) (fun j hj => by
        obtain rfl : j = 0 := by simpa using hj
        simp [Addr.add]) (by rw [hblen]; simp; omega)
      rw [hblen, hxn] at hrun
      have HN : Hid (BR w W5 g' c' (bs ++ mks (k + 1))) := by rw [mks_succ, ← hx, ← List.append_assoc]; exact hbr
      clear hbr hu1 hor HI hblen hx hxn
      go_wp2_with (at_builtin; refine Lib.wpList_append_run _ rfl (.tmp 12) (.tmp 16) 29 29 rfl _ _ rfl rfl _ _ hrun ?_)
      go_roundw
      case rel => exact ⟨k + 1, g', c', by omega, by go_num, rfl, hide (unhide HN)⟩
      case measure => simp [intOf]; omega
    · have hkk : k = 66 := by omega
      subst hkk
      have hct := cutToI g 0 (bs.length + 66) c bs.length (by have := (unhide HI).le; rw [List.length_append] at this; omega)
      go_wp2
      go_ret
      exact ⟨g, c, rfl, unhide HI⟩
set_option maxRecDepth 100000 in
set_option maxHeartbeats 1000000 in
theorem lKept (bs : List UInt8) (g c : Nat) (ao : Option Addr) (cap : Nat) (w u : World) (hb : BR w u g c (bs ++ mks 66)) (hsrc : Lies u ao bs) (hl : bs.length ≤ 140737488355200) :
    Calls Tryd.prog 15 #[.slice (some ⟨g, 0, none⟩) bs.length c, .slice ao bs.length cap] u fun e w' => e = .returned (.bool true) ∧ w' = u := by
  have hc1 := conv_liesE hb.front.lies bs.length c rfl
  have hc2 := conv_liesE hsrc bs.length cap rfl
  have hle : bs.length + 66 ≤ c := by have := hb.le; rw [List.length_append, mks_length] at this; exact this
  have hct := cutToI g 0 bs.length c (bs.length + 66) hle
  rw [show ((bs.length + 66 : Nat) : Int) = (bs.length : Int) + 66 from by omega] at hct
  have HCE : Hid (∀ k, k < 66 → u.cell? ⟨g, bs.length + k, none⟩ = some (.int .u8 (150 + (k : Int)))) := by
    intro k hk
    have hlen : (bs ++ mks 66).length = bs.length + 66 := by rw [List.length_append, mks_length]
    rw [hb.cell (bs.length + k) (by omega), List.getElem_append_right (by omega)]
    have := mks_at 66 k hk (Nat.le_refl _)
    simp only [Nat.add_sub_cancel_left]
    rw [this]
    congr 2
  have hli : (bs.length : Int) ≤ 140737488355200 := by omega
  clear hb hsrc hle
  generalize (⟨bs.toArray⟩ : ByteArray) = S at *
  go_enter Tryd.func15, Tryd.ntmps15
  go_wp2
  clear hc1 hc2 hct
  go_loop [6] (fun vi => ∃ k : Nat, k ≤ 66 ∧ vi = .int .i64 k) (fun vi => 66 - (intOf vi).toNat)
  case atStart => exact ⟨0, Nat.zero_le _, rfl⟩
  case round =>
    obtain ⟨k, hk, rfl⟩ := hrel
    by_cases hlt : k < 66
    · have hki : (k : Int) < 66 := by omega
      have hce := unhide HCE k hlt
      obtain ⟨j, hj⟩ : ∃ j, j = bs.length + k := ⟨_, rfl⟩
      rw [← hj] at hce
      have hji : (bs.length : Int) + (k : Int) = (j : Int) := by omega
      have hjl : (j : Int) < (bs.length : Int) + 66 := by omega
      have hjl2 : j < bs.length + 66 := by omega
      clear hj
      go_wp2
      go_round
      case rel => exact ⟨k + 1, by omega, by go_num⟩
      case measure => simp [intOf]; omega
    · go_wp2
      go_ret
      exact ⟨rfl, rfl⟩
end Go.Proofs.YtkmcjjlkammlaaaDoor
