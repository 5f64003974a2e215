/- A Hash in memory. -/
import Derived.Test.YtpbifpbblinopaaShM
import Derived.Test.YtpbifpbblinopaaHsM
import Derived.Test.YtpbifpbblinopaaSp
import Derived.Test.YtpbifpbblinopaaRg
import Derived.Laws.CopyOwn
import Derived.Deep.MidRow
namespace Go.Proofs.Ytpbifpbblinopaa
open Go.RowKit

theorem U1.trans {a b c : World} {g : Nat} (h : U1 a b g) (k : U1 b c g) : U1 a c g :=
  ⟨k.os.trans h.os, k.tape.trans h.tape, k.output.trans h.output, Nat.le_trans h.size k.size, fun q hq hn => (k.block q (Nat.lt_of_lt_of_le hq h.size) hn).trans (h.block q hq hn)⟩
theorem U1.below' {a b : World} {g : Nat} (h : Below a.heap.size a b) : U1 a b g := ⟨h.os, h.tape, h.output, h.size, fun q hq _ => h.block q hq⟩
theorem U1.toBelow {w w' : World} {g B : Nat} (h : U1 w w' g) (hB : B ≤ w.heap.size) (hg : B ≤ g) : Below B w w' := ⟨h.os, h.tape, h.output, h.size, fun k hk => h.block k (by omega) (by omega)⟩
theorem U1.then_new {w u u' : World} {h b : Nat} (k : U1 w u h) (k' : U1 u u' b) (hb : w.heap.size ≤ b) : U1 w u' h :=
  ⟨k'.os.trans k.os, k'.tape.trans k.tape, k'.output.trans k.output, Nat.le_trans k.size k'.size, fun q hq hn => (k'.block q (Nat.lt_of_lt_of_le hq k.size) (by omega)).trans (k.block q hq hn)⟩
theorem U1.drewN {a b : World} {g : Nat} (h : U1 a b g) (n : Nat) : U1 a (b.drewN n) g := ⟨h.os, h.tape, h.output, h.size, h.block⟩
theorem U1.drew {a b : World} {g : Nat} (h : U1 a b g) : U1 a b.drew g := ⟨h.os, h.tape, h.output, h.size, h.block⟩
theorem U1.row {w : World} {g : Nat} (cs : Array Value) : U1 w (w.setRow g cs) g := ⟨rfl, rfl, rfl, by simp [World.setRow], fun k _ hn => heapRow_other w g k cs hn⟩
/-- cells laid over those of a block, the block known whole -/
theorem heap_setCells {g : Nat} {t : TypeId} {fr : Nat × Nat} : ∀ (vs : List Value) (o : Nat) (w : World) (cur : List Value), w.heap[g]? = some (.cells cur.toArray t fr) → o + vs.length ≤ cur.length →
    (w.setCells g o vs).heap[g]? = some (.cells (splice cur o vs).toArray t fr)
  | [], o, w, cur, h, _ => by simpa [World.setCells, splice] using h
  | v :: r, o, w, cur, h, hl => by
    simp only [List.length_cons] at hl
    rw [World.setCells]
    have h1 := heapCell_same h o v
    rw [List.setIfInBounds_toArray] at h1
    rw [heap_setCells r (o + 1) _ (cur.set o v) h1 (by simp; omega)]
    congr 2
    unfold splice
    rw [List.take_set, List.take_succ_eq_append_getElem (by omega)]
    simp only [List.length_cons]
    rw [List.set_append_right _ _ (by simp; omega), List.drop_set_of_lt (by omega)]
    have e : o - (cur.take o).length = 0 := by simp; omega
    rw [e, show o + 1 + r.length = o + (r.length + 1) from by omega]
    simp
theorem U1.cells {w : World} {g : Nat} : ∀ (vs : List Value) (o : Nat) (w' : World), U1 w w' g → U1 w (w'.setCells g o vs) g
  | [], _, _, h => h
  | v :: r, o, _, h => U1.cells r (o + 1) _ (h.set o v)
/-- a Hash's cells -/
def HC (s : Sha.St) (lf : List UInt8) (n : Nat) : List Value := (St8 s).toList ++ (Lib.byteCells lf ++ [.int .u64 (n : Int)])
theorem byteCells_len (l : List UInt8) : (Lib.byteCells l).length = l.length := by simp [Lib.byteCells]
theorem byteCells_at (l : List UInt8) (j : Nat) (hj : j < l.length) : (Lib.byteCells l)[j]? = some (.int .u8 (l[j].toNat : Int)) := by simp [Lib.byteCells, hj]
theorem byteCells_one (l : List UInt8) : ∀ v ∈ Lib.byteCells l, v.oneCell' = true := by
  intro v hv
  simp only [Lib.byteCells, List.mem_map] at hv
  obtain ⟨x, _, rfl⟩ := hv
  rfl
theorem HC_len (s : Sha.St) (lf : List UInt8) (n : Nat) : (HC s lf n).length = lf.length + 9 := by
  simp [HC, byteCells_len, St8]
theorem HC_st (s : Sha.St) (lf : List UInt8) (n j : Nat) (hj : j < 8) : (HC s lf n)[j]? = (St8 s).toList[j]? := by
  rw [HC, List.getElem?_append_left (by simpa [St8] using hj)]
theorem HC_lf (s : Sha.St) (lf : List UInt8) (n j : Nat) (hj : j < lf.length) : (HC s lf n)[8 + j]? = (Lib.byteCells lf)[j]? := by
  rw [HC, List.getElem?_append_right (by simp [St8]), List.getElem?_append_left (by simp [St8, byteCells_len]; omega)]
  congr 1
  simp [St8]
theorem HC_n (s : Sha.St) (lf : List UInt8) (n : Nat) : (HC s lf n)[8 + lf.length]? = some (.int .u64 (n : Int)) := by
  rw [HC, List.getElem?_append_right (by simp [St8]), List.getElem?_append_right (by simp [St8, byteCells_len])]
  have e : 8 + lf.length - (St8 s).toList.length - (Lib.byteCells lf).length = 0 := by simp [St8, byteCells_len]
  rw [e]; rfl
structure HA (u : World) (h : Nat) (s : Sha.St) (lf : List UInt8) (n : Nat) : Prop where
  row : u.heap[h]? = some (.cells (HC s lf n).toArray 69 (0, 0))
  len : lf.length = 64
theorem HA.lt {u : World} {h : Nat} {s : Sha.St} {lf : List UInt8} {n : Nat} (k : HA u h s lf n) : h < u.heap.size := (Array.getElem?_eq_some_iff.1 k.row).1
theorem HA.keep {u u' : World} {h : Nat} {s : Sha.St} {lf : List UInt8} {n : Nat} (k : HA u h s lf n) (e : u'.heap[h]? = u.heap[h]?) : HA u' h s lf n := ⟨e.trans k.row, k.len⟩
theorem HA.below {u u' : World} {h : Nat} {s : Sha.St} {lf : List UInt8} {n : Nat} (k : HA u h s lf n) (hb : Below u.heap.size u u') : HA u' h s lf n := k.keep (hb.block h k.lt)
theorem HA.cnt {u : World} {h : Nat} {s : Sha.St} {lf : List UInt8} {n : Nat} (k : HA u h s lf n) : u.cell? ⟨h, 72, none⟩ = some (.int .u64 (n : Int)) := by
  have := HC_n s lf n
  rw [k.len] at this
  simp only [World.cell?, k.row, List.getElem?_toArray]
  exact this
theorem HA.frozen {u : World} {h : Nat} {s : Sha.St} {lf : List UInt8} {n : Nat} (k : HA u h s lf n) (j : Nat) : u.frozen? ⟨h, j, none⟩ = false := by simp [World.frozen?, k.row]
theorem HA.st {u : World} {h : Nat} {s : Sha.St} {lf : List UInt8} {n : Nat} (k : HA u h s lf n) : u.rangeAt h 0 (St8 s).toList := by
  intro j v hv
  have hj : j < 8 := (List.getElem?_eq_some_iff.1 hv).1
  rw [← HC_st s lf n j hj] at hv
  simp only [World.cell?, k.row, List.getElem?_toArray, Nat.zero_add]
  exact hv
theorem HA.lf {u : World} {h : Nat} {s : Sha.St} {lf : List UInt8} {n : Nat} (k : HA u h s lf n) : u.rangeAt h 8 (Lib.byteCells lf) := by
  intro j v hv
  have hj : j < lf.length := by have := (List.getElem?_eq_some_iff.1 hv).1; rwa [byteCells_len] at this
  rw [← HC_lf s lf n j hj] at hv
  simp only [World.cell?, k.row, List.getElem?_toArray]
  exact hv
theorem HA.there {u : World} {h : Nat} {s : Sha.St} {lf : List UInt8} {n : Nat} (k : HA u h s lf n) : u.there h 0 8 := by
  intro j hj
  exact ⟨by rw [(k.st) j _ (List.getElem?_eq_getElem (by simpa [St8] using hj))]; rfl, k.frozen _⟩
theorem HC_set (s : Sha.St) (lf : List UInt8) (n m : Nat) : (HC s lf n).set (8 + lf.length) (.int .u64 (m : Int)) = HC s lf m := by
  unfold HC
  rw [List.set_append_right _ _ (by simp [St8]), List.set_append_right _ _ (by simp [St8, byteCells_len])]
  have e : 8 + lf.length - (St8 s).toList.length - (Lib.byteCells lf).length = 0 := by simp [St8, byteCells_len]
  rw [e]; rfl
theorem HA.setCnt {u : World} {h : Nat} {s : Sha.St} {lf : List UInt8} {n : Nat} (k : HA u h s lf n) (m : Nat) : HA (u.setCell ⟨h, 72, none⟩ (.int .u64 (m : Int))) h s lf m := by
  refine ⟨?_, k.len⟩
  have h1 := heapCell_same k.row 72 (.int .u64 (m : Int))
  rw [List.setIfInBounds_toArray, show 72 = 8 + lf.length from by rw [k.len], HC_set] at h1
  rw [show 72 = 8 + lf.length from by rw [k.len]]
  exact h1
theorem HC_splice_st (s t : Sha.St) (lf : List UInt8) (n : Nat) : splice (HC s lf n) 0 (St8 t).toList = HC t lf n := by
  unfold splice HC
  rw [List.take_zero, List.nil_append, show 0 + (St8 t).toList.length = (St8 s).toList.length from rfl, List.drop_left]
theorem HA.setSt {u : World} {h : Nat} {s : Sha.St} {lf : List UInt8} {n : Nat} (k : HA u h s lf n) (t : Sha.St) : HA (u.setCells h 0 (St8 t).toList) h t lf n := by
  refine ⟨?_, k.len⟩
  rw [heap_setCells _ 0 u _ k.row (by rw [HC_len, k.len]; simp [St8]), HC_splice_st]
theorem HC_splice_lf (s : Sha.St) (lf p : List UInt8) (n r : Nat) (h : r + p.length ≤ lf.length) : splice (HC s lf n) (8 + r) (Lib.byteCells p) = HC s (splice lf r p) n := by
  have e8 : (St8 s).toList.length = 8 := rfl
  unfold splice HC
  simp only [byteCells_len]
  rw [List.take_append, List.take_of_length_le (by omega), e8, show 8 + r - 8 = r from by omega, List.take_append_of_le_length (by rw [byteCells_len]; omega)]
  rw [List.drop_append, List.drop_of_length_le (by omega), List.nil_append, e8, show 8 + r + p.length - 8 = r + p.length from by omega, List.drop_append_of_le_length (by rw [byteCells_len]; omega)]
  simp [Lib.byteCells, List.map_take, List.map_drop]
/-- a Hash of these bytes -/
structure Hs (u : World) (h : Nat) (l : List UInt8) : Prop where
  at' : ∃ lf, HA u h (Sha.absorb l) lf l.length ∧ lf.take (l.length % 64) = Sha.tail l
theorem Hs.lt {u : World} {h : Nat} {l : List UInt8} (k : Hs u h l) : h < u.heap.size := by obtain ⟨lf, k, _⟩ := k.at'; exact k.lt
theorem Hs.keep {u u' : World} {h : Nat} {l : List UInt8} (k : Hs u h l) (e : u'.heap[h]? = u.heap[h]?) : Hs u' h l := by
  obtain ⟨lf, k, hl⟩ := k.at'
  exact ⟨lf, k.keep e, hl⟩
theorem Hs.below {u u' : World} {h : Nat} {l : List UInt8} (k : Hs u h l) (hb : Below u.heap.size u u') : Hs u' h l := k.keep (hb.block h k.lt)
theorem Hs.u1 {u u' : World} {h g : Nat} {l : List UInt8} (k : Hs u h l) (hb : U1 u u' g) (hne : h ≠ g) : Hs u' h l := k.keep (hb.block h k.lt hne)
theorem Ok.blocks {s : Sha.St} (h : Ok s) (n : Nat) (l : List UInt8) : Ok (Sha.blocks n s l) := by
  induction n generalizing s l with
  | zero => exact h
  | succ n ih => exact ih (Ok.mix _ _) _
theorem Ok.absorb (l : List UInt8) : Ok (Sha.absorb l) := Ok.start.blocks _ _
theorem cell_u1 {w w' : World} {h g o : Nat} {v : Value} (hu : U1 w w' h) (hne : g ≠ h) (hc : w.cell? ⟨g, o, none⟩ = some v) : w'.cell? ⟨g, o, none⟩ = some v := by
  rw [World.cell?_of_block (w := w) (a := ⟨g, o, none⟩) (hu.block _ (World.block_lt_of_cell? w _ hc) hne)]; exact hc
theorem add_block (a : Addr) (n : Nat) : (a.add n).block = a.block := by unfold Addr.add; split <;> rfl
theorem splice_len {α : Type} (L : List α) (off : Nat) (cs : List α) (h : off + cs.length ≤ L.length) : (splice L off cs).length = L.length := length_splice L off cs h
theorem splice_take {α : Type} (L : List α) (off : Nat) (cs : List α) (h : off + cs.length ≤ L.length) : (splice L off cs).take (off + cs.length) = L.take off ++ cs := by
  unfold splice
  rw [← List.append_assoc, List.take_append_of_le_length (by simp; omega)]
  exact List.take_of_length_le (by simp; omega)
/-- copy: the block g alone is changed -/
theorem copy_u1 {P : Program} {w : World} (dT sT ty elem : TypeId) (hu : P.underlying dT = some (.slice elem)) (hsz : (P.info? elem).map (·.size) = some 1)
    (dp sp : Option Addr) (dLen dCap sLen sCap : Nat)
    (g off : Nat) (cur : List Value) (t : TypeId) (hg : w.heap[g]? = some (.cells cur.toArray t (0, 0))) (cs : List Value) (hn : cs.length = Nat.min sLen dLen)
    (hpos : 0 < cs.length → dp = some ⟨g, off, none⟩ ∧ ∃ ad, sp = some ad ∧ ∀ j v, cs[j]? = some v → w.cell? (ad.add j) = some v)
    (hfit : off + cs.length ≤ cur.length) (h1 : ∀ v ∈ cs, v.oneCell' = true) :
    ∃ w', (Builtin.copy_ #[dT, sT] ty #[.slice dp dLen dCap, .slice sp sLen sCap]).run P w = .ok (goInt cs.length) w' ∧ w'.heap[g]? = some (.cells (splice cur off cs).toArray t (0, 0)) ∧ U1 w w' g := by
  by_cases h0 : cs.length = 0
  · obtain rfl : cs = [] := List.eq_nil_of_length_eq_zero h0
    exact ⟨w, run_copy_none (P := P) w dT sT ty elem dp sp dLen dCap sLen sCap hu hsz (by simpa using hn.symm), by simpa [splice] using hg, U1.refl _ _⟩
  · obtain ⟨rfl, ad, rfl, hsrc⟩ := hpos (by omega)
    exact ⟨_, run_copy_row (P := P) w dT sT ty elem g off dLen dCap ad sLen sCap cur.toArray t cs hu hsz hg hn hsrc (by simpa using hfit) h1, by simpa [splice] using setRow_heap w g _ _ t _ hg, U1.row _⟩
theorem wpList_store_u1 {P : Program} {ops : Array Oper} {rest : List Oper} {o : Oper} {a : Act} {w : World} {Q : Exit → Act → World → Prop} (hgd : o.guard = none) (ty : TypeId) (x y : Operand) (ho : o.op = .store ty x y)
    (g : Nat) (cells : Array Value) (hx : a.eval x = .pointer (some ⟨g, 0, none⟩)) (hy : a.eval y = .agg cells)
    (t : TypeId) (old : Array Value) (hg : w.heap[g]? = some (.cells old t (0, 0))) (hi : (P.info? ty).map (·.size) = some cells.size)
    (hold : old.size = cells.size) (h1 : cells.all (·.oneCell') = true)
    (h : ∀ w', Hid (w'.heap[g]? = some (.cells cells t (0, 0))) → Hid (U1 w w' g) → wpList P ops Q rest (a.put o.dst undef) w') : wpList P ops Q (o :: rest) a w :=
  wpList_store_row hgd ty x y ho g cells hx hy t old hg hi hold h1 (h _ (heapRow_same hg _) (U1.row _))
theorem U1.fresh {w w' : World} {o : Obj} (h : U1 (w.alloc o) w' w.heap.size) : Below w.heap.size w w' :=
  ⟨h.os, h.tape, h.output, by have := h.size; simp at this; omega, fun k hk => by
    rw [h.block k (by simp; omega) (by omega), Deep.blk_alloc_lt _ _ _ hk]⟩
/-- bytes of a row are copied into what fills no block yet -/
theorem copyLeft {w : World} {h r n : Nat} {s : Sha.St} {lf q : List UInt8} (ha : HA w h s lf n) (ao : Option Addr) (m cap : Nat) (hq : q.length = Nat.min m (64 - r)) (hr : r < 64)
    (hsrc : 0 < q.length → ∃ ad, ao = some ad ∧ ∀ (j : Nat) (hj : j < q.length), w.cell? (ad.add j) = some (.int .u8 (q[j].toNat : Int))) :
    ∃ w', (Builtin.copy_ #[24, 24] 3 #[.slice (some ⟨h, 8 + r, none⟩) (64 - r) (64 - r), .slice ao m cap]).run Try.prog w = .ok (goInt q.length) w' ∧ HA w' h s (splice lf r q) n ∧ U1 w w' h := by
  have hl := ha.len
  have hq2 : q.length ≤ 64 - r := by rw [hq]; exact Nat.min_le_right _ _
  have infoU : (Try.prog.info? 5).map (·.size) = some 1 := by kernel_rfl
  obtain ⟨w', h1, h2, h3⟩ := copy_u1 (P := Try.prog) (w := w) 24 24 3 5 Try.underlying24 infoU (some ⟨h, 8 + r, none⟩) ao (64 - r) (64 - r) m cap h (8 + r) (HC s lf n) 69 ha.row (Lib.byteCells q)
    (by rw [byteCells_len]; exact hq)
    (fun hp => by
      obtain ⟨ad, h1, h2⟩ := hsrc (by rwa [byteCells_len] at hp)
      refine ⟨rfl, ad, h1, fun j v hv => ?_⟩
      have hj : j < q.length := by have := (List.getElem?_eq_some_iff.1 hv).1; rwa [byteCells_len] at this
      rw [byteCells_at q j hj] at hv
      rw [h2 j hj, hv])
    (by rw [HC_len, byteCells_len]; omega) (byteCells_one q)
  rw [byteCells_len] at h1
  refine ⟨w', h1, ⟨?_, ?_⟩, h3⟩
  · rw [h2, HC_splice_lf _ _ _ _ _ (by omega)]
  · rw [splice_len _ _ _ (by omega)]; exact hl
theorem World.rangeAt_of_block' {u u' : World} {b o : Nat} {cs : List Value} (h : u.rangeAt b o cs) (e : u'.heap[b]? = u.heap[b]?) : u'.rangeAt b o cs := fun j v hv => by
  rw [World.cell?_of_block (w := u) (a := ⟨b, o + j, none⟩) e]; exact h j v hv
def lfB (lf : List UInt8) (i : Nat) : Nat := (lf.getD i 0).toNat
theorem lfB_lt (lf : List UInt8) (i : Nat) : lfB lf i < 256 := UInt8.toNat_lt _
theorem mix_lfB (s : Sha.St) (lf : List UInt8) : Sha.add s (Sha.rnd (lfB lf) s 64) = Sha.mix s lf := rfl
theorem lf_is8 (lf : List UInt8) (h : lf.length = 64) : Is8 (Lib.byteCells lf).toArray 64 (lfB lf) := by
  refine ⟨by simp [byteCells_len, h], fun i hi => ?_⟩
  rw [List.getElem?_toArray, byteCells_at lf i (by omega)]
  simp [lfB, List.getD, List.getElem?_eq_getElem (show i < lf.length by omega)]
/-- where a row begins of which a front was cut off -/
def cutO (c i o : Nat) : Nat := if c = i then o else o + i
theorem cutO_lt {c i m o : Nat} (h : i < m) (hc : m ≤ c) : cutO c i o = o + i := by unfold cutO; rw [if_neg (by omega)]
theorem bytesUnd : Try.prog.underlying 24 = some (.slice (Try.prog.elem 24)) := by kernel_rfl
theorem bytesSize (W : World) : (sizeOf (Try.prog.elem 24)).run Try.prog W = .ok 1 W := by
  have h : (Try.prog.info? (Try.prog.elem 24)).map (·.size) = some 1 := by kernel_rfl
  cases hq : Try.prog.info? (Try.prog.elem 24) with
  | none => simp [hq] at h
  | some i => simp [sizeOf, typeInfo, hq] at h ⊢; exact h
theorem cutFrom (g o m c i : Nat) (hi : i ≤ m) (W : World) : (Instr.slice 24 (.slice (some ⟨g, o, none⟩) m c) (some (.int .i64 (i : Int))) none none).run Try.prog W = .ok (.slice (some ⟨g, cutO c i o, none⟩) (m - i) (c - i)) W := by
  rw [run_slice_l W 24 _ _ _ bytesUnd .i64 i (by omega) (by omega), bytesSize]
  simp only [Result.andThen_ok, sliced, Int.toNat_natCast, Nat.mul_one]
  unfold cutO
  split
  · rfl
  · rw [Option.map_some, Addr.add_mid]
theorem cutTo (g o m c i : Nat) (hi : i ≤ c) (h0 : 0 < c) (W : World) : (Instr.slice 24 (.slice (some ⟨g, o, none⟩) m c) none (some (.int .i64 (i : Int))) none).run Try.prog W = .ok (.slice (some ⟨g, o, none⟩) i c) W := by
  rw [run_slice_h W 24 _ _ _ bytesUnd .i64 i (by omega) (by omega), bytesSize]
  simp only [Result.andThen_ok, sliced, Int.toNat_natCast, Nat.mul_one, Nat.sub_zero]
  rw [if_neg (by omega), Option.map_some, Addr.add_mid]
  rfl
/-- while blocks are mixed in -/
structure WI (w u : World) (h tb g o : Nat) (p : List UInt8) (s : Sha.St) (lf : List UInt8) (n : Nat) : Prop where
  ha : HA u h s lf n
  tab : ∀ i, i < 64 → u.cell? ⟨tb, i, none⟩ = some (.int .u32 (Sha.K.getD i 0 : Nat))
  tlt : tb < u.heap.size
  tne : tb ≠ h
  src : ∀ (j : Nat) (hj : j < p.length), u.cell? ⟨g, o + j, none⟩ = some (.int .u8 (p[j].toNat : Int))
  gne : g ≠ h
  u1 : U1 w u h
theorem WI.drew {w u : World} {h tb g o : Nat} {p : List UInt8} {s : Sha.St} {lf : List UInt8} {n : Nat} (k : WI w u h tb g o p s lf n) : WI w u.drew h tb g o p s lf n :=
  ⟨k.ha.keep rfl, k.tab, k.tlt, k.tne, k.src, k.gne, k.u1.drew⟩
theorem WI.u1' {w u u' : World} {h tb g o : Nat} {p : List UInt8} {s t : Sha.St} {lf lf' : List UInt8} {n n' : Nat} (k : WI w u h tb g o p s lf n) (hu : U1 u u' h) (ha : HA u' h t lf' n') : WI w u' h tb g o p t lf' n' :=
  ⟨ha, fun i hi => cell_u1 hu k.tne (k.tab i hi), Nat.lt_of_lt_of_le k.tlt hu.size, k.tne, fun j hj => cell_u1 hu k.gne (k.src j hj), k.gne, k.u1.trans hu⟩
theorem WI.step {w u u' : World} {h tb g o : Nat} {p : List UInt8} {s : Sha.St} {lf : List UInt8} {n : Nat} (k : WI w u h tb g o p s lf n) (hb : Below u.heap.size u u') (t : Sha.St) : WI w (u'.setCells h 0 (St8 t).toList) h tb g o p t lf n := by
  have h1 : U1 u u' h := U1.below' hb
  exact k.u1' (U1.cells _ _ _ h1) ((k.ha.below hb).setSt t)
theorem WI.cut {w u : World} {h tb g o : Nat} {p : List UInt8} {s : Sha.St} {lf : List UInt8} {n : Nat} (k : WI w u h tb g o p s lf n) (c i : Nat) (hc : p.length ≤ c) : WI w u h tb g (cutO c i o) (p.drop i) s lf n :=
  ⟨k.ha, k.tab, k.tlt, k.tne, fun j hj => by
    rw [List.length_drop] at hj
    rw [cutO_lt (by omega) hc, List.getElem_drop, Nat.add_assoc]
    exact k.src (i + j) (by omega), k.gne, k.u1⟩
theorem WI.front {w u : World} {h tb g o : Nat} {p : List UInt8} {s : Sha.St} {lf : List UInt8} {n : Nat} (k : WI w u h tb g o p s lf n) (i : Nat) : u.rangeAt g o (Lib.byteCells (p.take i)) := by
  intro j v hv
  have hj : j < (p.take i).length := by have := (List.getElem?_eq_some_iff.1 hv).1; rwa [byteCells_len] at this
  rw [byteCells_at _ j hj, List.getElem_take] at hv
  rw [List.length_take] at hj
  rw [k.src j (by omega), hv]
def sliceLen : Value → Nat
  | .slice _ n _ => n
  | _ => 0
end Go.Proofs.Ytpbifpbblinopaa
