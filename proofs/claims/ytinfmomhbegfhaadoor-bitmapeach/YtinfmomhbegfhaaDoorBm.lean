/- A set in memory; the small functions. -/
import Derived.Test.YtinfmomhbegfhaaDoorMm
import Derived.Test.YtinfmomhbegfhaaDoorBn
import Derived.Great.Walk
namespace Go.Proofs.YtinfmomhbegfhaaDoor
open Go.RowKit

/-- words, maybe with more than the set may have: the bound n at p, the words at q -/
structure Bq (u : World) (p q n S : Nat) : Prop where
  hd : ∃ cap, u.heap[p]? = some (.cells #[.int .i64 (n : Int), .slice (some ⟨q, 0, none⟩) ((n + 63) / 64) cap] 68 (0, 0))
  row : ∃ cs, u.heap[q]? = some (.cells cs 69 (0, 0)) ∧ ∀ i, i < (n + 63) / 64 → cs[i]? = some (.int .u64 (Bit.word S i : Int))
  ne : p ≠ q
  le : n ≤ 65536
theorem Bq.plt {u : World} {p q n S : Nat} (h : Bq u p q n S) : p < u.heap.size := by obtain ⟨_, h⟩ := h.hd; exact (Array.getElem?_eq_some_iff.1 h).1
theorem Bq.qlt {u : World} {p q n S : Nat} (h : Bq u p q n S) : q < u.heap.size := by obtain ⟨_, h, _⟩ := h.row; exact (Array.getElem?_eq_some_iff.1 h).1
theorem Bq.keep {u u' : World} {p q n S : Nat} (h : Bq u p q n S) (hp : u'.heap[p]? = u.heap[p]?) (hq : u'.heap[q]? = u.heap[q]?) : Bq u' p q n S := by
  obtain ⟨cap, h1⟩ := h.hd
  obtain ⟨cs, h2, h3⟩ := h.row
  exact ⟨⟨cap, hp.trans h1⟩, ⟨cs, hq.trans h2, h3⟩, h.ne, h.le⟩
theorem Bq.drewN {u : World} {p q n S : Nat} (h : Bq u p q n S) (k : Nat) : Bq (u.drewN k) p q n S := h.keep rfl rfl
theorem Bq.drew {u : World} {p q n S : Nat} (h : Bq u p q n S) : Bq u.drew p q n S := h.keep rfl rfl
theorem Bq.c0 {u : World} {p q n S : Nat} (h : Bq u p q n S) : u.cell? ⟨p, 0, none⟩ = some (.int .i64 (n : Int)) := by obtain ⟨cap, h1⟩ := h.hd; simp [World.cell?, h1]
theorem Bq.c1 {u : World} {p q n S : Nat} (h : Bq u p q n S) : ∃ cap, u.cell? ⟨p, 1, none⟩ = some (.slice (some ⟨q, 0, none⟩) ((n + 63) / 64) cap) := by obtain ⟨cap, h1⟩ := h.hd; exact ⟨cap, by simp [World.cell?, h1]⟩
theorem Bq.w {u : World} {p q n S : Nat} (h : Bq u p q n S) (i : Nat) (hi : i < (n + 63) / 64) : u.cell? ⟨q, i, none⟩ = some (.int .u64 (Bit.word S i : Int)) := by obtain ⟨cs, h1, h2⟩ := h.row; simp [World.cell?, h1, h2 i hi]
theorem Bq.fz {u : World} {p q n S : Nat} (h : Bq u p q n S) (i : Nat) : u.frozen? ⟨q, i, none⟩ = false := by obtain ⟨cs, h1, h2⟩ := h.row; simp [World.frozen?, h1]
/-- one word is laid anew -/
theorem Bq.lay {u : World} {p q n S T k x : Nat} (h : Bq u p q n S) (hx : x = Bit.word T k) (hT : ∀ i, i ≠ k → Bit.word T i = Bit.word S i) : Bq (u.setCell ⟨q, k, none⟩ (.int .u64 (x : Int))) p q n T := by
  obtain ⟨cap, h1⟩ := h.hd
  obtain ⟨cs, h2, h3⟩ := h.row
  refine ⟨⟨cap, (Deep.blk_setCell_other u ⟨q, k, none⟩ _ p h.ne).trans h1⟩, ⟨_, heapCell_same h2 _ _, fun i hi => ?_⟩, h.ne, h.le⟩
  rw [Array.getElem?_setIfInBounds]
  by_cases e : k = i
  · subst e
    rw [if_pos rfl, if_pos (by have := h3 k hi; exact (Array.getElem?_eq_some_iff.1 this).1), hx]
  · rw [if_neg e, h3 i hi, hT i (Ne.symm e)]
/-- a set of the bound n at p, its words at q -/
structure Bm (u : World) (p q n S : Nat) : Prop where
  bq : Bq u p q n S
  lt : S < 2 ^ n
theorem Bq.bm {u : World} {p q n S : Nat} (h : Bq u p q n S) (hl : S < 2 ^ n) : Bm u p q n S := ⟨h, hl⟩
theorem Bm.le {u : World} {p q n S : Nat} (h : Bm u p q n S) : n ≤ 65536 := h.bq.le
theorem Bm.plt {u : World} {p q n S : Nat} (h : Bm u p q n S) : p < u.heap.size := h.bq.plt
theorem Bm.qlt {u : World} {p q n S : Nat} (h : Bm u p q n S) : q < u.heap.size := h.bq.qlt
theorem Bm.keep {u u' : World} {p q n S : Nat} (h : Bm u p q n S) (hp : u'.heap[p]? = u.heap[p]?) (hq : u'.heap[q]? = u.heap[q]?) : Bm u' p q n S := ⟨h.bq.keep hp hq, h.lt⟩
theorem Bm.below {u u' : World} {p q n S : Nat} (h : Bm u p q n S) (hb : Below u.heap.size u u') : Bm u' p q n S := h.keep (hb.block p h.plt) (hb.block q h.qlt)
theorem Bm.u1 {u u' : World} {p q n S g : Nat} (h : Bm u p q n S) (hb : U1 u u' g) (hp : p ≠ g) (hq : q ≠ g) : Bm u' p q n S := h.keep (hb.block p h.plt hp) (hb.block q h.qlt hq)
theorem Bm.drewN {u : World} {p q n S : Nat} (h : Bm u p q n S) (k : Nat) : Bm (u.drewN k) p q n S := h.keep rfl rfl
theorem Bm.drew {u : World} {p q n S : Nat} (h : Bm u p q n S) : Bm u.drew p q n S := h.keep rfl rfl
theorem Bm.c0 {u : World} {p q n S : Nat} (h : Bm u p q n S) : u.cell? ⟨p, 0, none⟩ = some (.int .i64 (n : Int)) := h.bq.c0
theorem Bm.c1 {u : World} {p q n S : Nat} (h : Bm u p q n S) : ∃ cap, u.cell? ⟨p, 1, none⟩ = some (.slice (some ⟨q, 0, none⟩) ((n + 63) / 64) cap) := h.bq.c1
theorem Bm.w {u : World} {p q n S : Nat} (h : Bm u p q n S) (i : Nat) (hi : i < (n + 63) / 64) : u.cell? ⟨q, i, none⟩ = some (.int .u64 (Bit.word S i : Int)) := h.bq.w i hi
theorem Bm.fz {u : World} {p q n S : Nat} (h : Bm u p q n S) (i : Nat) : u.frozen? ⟨q, i, none⟩ = false := h.bq.fz i
theorem Bm.put {u : World} {p q n S : Nat} (h : Bm u p q n S) (x : Nat) (hx : x < n) : Bm (u.setCell ⟨q, x / 64, none⟩ (.int .u64 ((Bit.word S (x / 64) ||| 2 ^ (x % 64) : Nat) : Int))) p q n (S ||| 2 ^ x) :=
  ⟨h.bq.lay (Bit.word_put S x).symm (fun i hi => Bit.word_put_other S x i hi), Bit.put_lt h.lt hx⟩
theorem infoW : (Tryd.prog.info? 69).map (fun i => (i.zero, i.size, i.bytes)) = some (some (.int .u64 0), 1, 8) := by kernel_rfl

theorem bLen {p q n S : Nat} {w : World} (h : Bm w p q n S) : Calls Tryd.prog 11 #[.pointer (some ⟨p, 0, none⟩)] w fun e w' => e = .returned (.int .i64 (n : Int)) ∧ w' = w := by
  have hc := h.c0
  clear h
  go_enter Tryd.func11, Tryd.ntmps11
  go_wp2
  go_ret
  exact ⟨rfl, rfl⟩
theorem bRefused {p q n S : Nat} {w : World} (h : Bm w p q n S) (x : Nat) (hx : x < n) : Calls Tryd.prog 52 #[.pointer (some ⟨p, 0, none⟩), .int .i64 (x : Int)] w fun e w' => e = .returned (.int .i64 0) ∧ w' = w := by
  have hc := h.c0
  have hx0 : ¬ (x : Int) < 0 := by omega
  have hx1 : ¬ (n : Int) ≤ (x : Int) := by omega
  clear h
  go_enter Tryd.func52, Tryd.ntmps52
  go_wp2
  go_ret
  exact ⟨rfl, rfl⟩
theorem bBytesOf (n : Nat) (hn : n ≤ 100000) (w : World) : Calls Tryd.prog 39 #[.int .i64 (n : Int)] w fun e w' => e = .returned (.int .i64 (((n + 7) / 8 : Nat) : Int)) ∧ w' = w := by
  go_enter Tryd.func39, Tryd.ntmps39
  go_wp2
  go_ret
  refine ⟨?_, rfl⟩
  congr 2
  go_num
theorem wrap_small (x : Int) (h1 : -9223372036854775808 ≤ x) (h2 : x < 9223372036854775808) : IntKind.i64.wrap x = x := by
  rw [IntKind.wrap_i64]; omega
theorem tmod_neg (x : Int) (m : Nat) (hm : 0 < m) (h : x.tmod (m : Int) < 0) : x.tmod (m : Int) + (m : Int) = x % (m : Int) := by
  have h1 := Int.tmod_eq_emod (a := x) (b := (m : Int))
  have h2 := Int.emod_nonneg x (b := (m : Int)) (by omega)
  split at h1 <;> omega
theorem tmod_pos (x : Int) (m : Nat) (hm : 0 < m) (h : ¬ x.tmod (m : Int) < 0) : x.tmod (m : Int) = x % (m : Int) := by
  have h1 := Int.tmod_eq_emod (a := x) (b := (m : Int))
  have h2 := Int.emod_lt_of_pos x (b := (m : Int)) (by omega)
  split at h1 <;> omega
theorem lBelow (x : Int) (m : Nat) (hm : 0 < m) (hm2 : m ≤ 65536) (w : World) : Calls Tryd.prog 31 #[.int .i64 x, .int .i64 (m : Int)] w fun e w' => e = .returned (.int .i64 (x % (m : Int))) ∧ w' = w := by
  have hp := Int.emod_nonneg x (b := (m : Int)) (by omega)
  have hl := Int.emod_lt_of_pos x (b := (m : Int)) (by omega)
  by_cases hneg : x.tmod (m : Int) < 0
  · have e := tmod_neg x m hm hneg
    have ew : IntKind.i64.wrap (x.tmod (m : Int) + (m : Int)) = x % (m : Int) := by rw [e]; exact wrap_small _ (by omega) (by omega)
    clear e hp hl
    go_enter Tryd.func31, Tryd.ntmps31
    go_wp2
    go_ret
    exact ⟨rfl, rfl⟩
  · have e := tmod_pos x m hm hneg
    clear hp hl
    go_enter Tryd.func31, Tryd.ntmps31
    go_wp2
    go_ret
    exact ⟨rfl, rfl⟩
theorem lBound (x : Int) (w : World) : Calls Tryd.prog 27 #[.int .i64 x] w fun e w' => e = .returned (.int .i64 (((x % 2001).toNat : Nat) : Int)) ∧ w' = w := by
  have hb := fun w => lBelow x 2001 (by decide) (by decide) w
  have e : (((x % 2001).toNat : Nat) : Int) = x % 2001 := Int.toNat_of_nonneg (Int.emod_nonneg x (by decide))
  rw [e]
  go_enter Tryd.func27, Tryd.ntmps27
  go_wp2_with (go_at_call 31; refine (hb _).mono ?_; rintro e w1 ⟨rfl, rfl⟩)
  go_ret
  exact ⟨rfl, rfl⟩
theorem lowest_val (c : Nat) (hc : c ≤ 64) : IntKind.u64.wrap (IntKind.u64.wrap (1 * 2 ^ c) - 1) = ((2 ^ c - 1 : Nat) : Int) := by
  have h : ∀ c : Fin 65, IntKind.u64.wrap (IntKind.u64.wrap (1 * 2 ^ c.1) - 1) = ((2 ^ c.1 - 1 : Nat) : Int) := by decide +kernel
  exact h ⟨c, by omega⟩
theorem bLowest (x : Int) (c : Nat) (hc : ((min (max x 0) 64 : Int)).toNat = c) (w : World) : Calls Tryd.prog 51 #[.int .i64 x] w fun e w' => e = .returned (.int .u64 ((2 ^ c - 1 : Nat) : Int)) ∧ w' = w := by
  go_enter Tryd.func51, Tryd.ntmps51
  go_wp2
  go_ret
  refine ⟨?_, rfl⟩
  have e : min (max x 0) 64 ≤ 64 := Int.min_le_right _ _
  have := lowest_val c (by omega)
  rw [Int.one_mul] at this
  exact congrArg (fun z => Ending.returned (Value.int .u64 z)) this
theorem bNew (n : Nat) (hn : n ≤ 65536) (w : World) : Calls Tryd.prog 28 #[.int .i64 (n : Int)] w fun e w' => ∃ p q, e = .returned (.tuple #[.pointer (some ⟨p, 0, none⟩), .int .i64 0]) ∧ w.heap.size ≤ p ∧ w.heap.size ≤ q ∧ Bm w' p q n 0 ∧ Below w.heap.size w w' := by
  obtain ⟨m, hm⟩ : ∃ m, m = (n + 63) / 64 := ⟨_, rfl⟩
  have hmk := run_make_row' (P := Tryd.prog) 66 69 (.int .u64 0) 8 Tryd.underlying66 infoW rfl .i64 .i64 m (by omega) (by omega)
  have h0 : ¬ (n : Int) < 0 := by omega
  have h1 : ¬ (65536 : Int) < (n : Int) := by omega
  have hq : ((n : Int) + 63) / 64 = (m : Int) := by omega
  have hq' : ((n : Int) + 64 - 1) / 64 = (m : Int) := by omega
  have HM := hide hm
  clear hm
  go_enter Tryd.func28, Tryd.ntmps28
  go_wp2_with (first | (refine wpList_buildTo (by rfl) 68 #[(0, .tmp 10), (1, .tmp 15)] (by rfl) (some 16) (by rfl) #[.int .i64 (n : Int), .slice (some ⟨w.heap.size, 0, none⟩) m m] (by kernel_rfl) ?_) | (refine wpList_box_row (by rfl) 68 (.tmp 16) (by rfl) (some 17) (by rfl) (w.heap.size + 1) (by simp) #[.int .i64 (n : Int), .slice (some ⟨w.heap.size, 0, none⟩) m m] (by rfl) ?_; intro W2 HR2 HB2 HS2))
  go_ret2
  have hm := unhide HM
  have hb := (Below.refl w.heap.size w).alloc (Nat.le_refl _) (.cells (madeCells #[.int .u64 0] m) 69)
  have hb2 := (unhide HB2).mono (Nat.le_succ w.heap.size)
  subst hm
  refine ⟨w.heap.size + 1, rfl, by omega, w.heap.size, Nat.le_refl _, ⟨⟨⟨_, unhide HR2⟩, ⟨_, ((unhide HB2).block w.heap.size (by omega)).trans (heap_alloc_new _ _), fun i hi => ?_⟩, by omega, hn⟩, by exact Nat.pow_pos (by decide)⟩, hb.trans hb2⟩
  rw [Bit.word_zero]
  simp [madeCells, hi, Nat.mod_one]
theorem pow64 (r : Nat) (hr : r < 64) : IntKind.u64.wrap (2 ^ r) = ((2 ^ r : Nat) : Int) := by
  have h : ∀ c : Fin 64, IntKind.u64.wrap (2 ^ c.1) = ((2 ^ c.1 : Nat) : Int) := by decide +kernel
  exact h ⟨r, hr⟩
set_option maxRecDepth 100000 in
theorem bPut {p q n S : Nat} {w : World} (h : Bm w p q n S) (x : Nat) (hx : x < n) : Calls Tryd.prog 24 #[.pointer (some ⟨p, 0, none⟩), .int .i64 (x : Int)] w fun e w' => e = .returned (.int .i64 0) ∧ Bm w' p q n (S ||| 2 ^ x) ∧ U1 w w' q := by
  have hr := bRefused h x hx
  obtain ⟨cap, h1⟩ := h.c1
  have hxw : x / 64 < (n + 63) / 64 := by omega
  have h2 := h.w (x / 64) hxw
  have h3 := h.fz (x / 64)
  have HP := hide (h.put x hx)
  have HU := hide ((U1.refl w q).set (x / 64) (.int .u64 ((Bit.word S (x / 64) ||| 2 ^ (x % 64) : Nat) : Int)))
  have hl := Bit.word_lt S (x / 64)
  have hle := h.le
  have hor := u64_or_nat (Bit.word S (x / 64)) (2 ^ (x % 64)) hl (show 2 ^ (x % 64) < 2 ^ 64 from Nat.pow_lt_pow_right (by decide) (by omega))
  generalize Bit.word S (x / 64) = W at *
  obtain ⟨m, hm⟩ : ∃ m, m = (n + 63) / 64 := ⟨_, rfl⟩
  rw [← hm] at h1 hxw
  obtain ⟨k, hk⟩ : ∃ k, k = x / 64 := ⟨_, rfl⟩
  obtain ⟨r, hr'⟩ : ∃ r, r = x % 64 := ⟨_, rfl⟩
  rw [← hk] at h2 h3 hxw HP HU
  rw [← hr'] at hor HP HU
  have e1 : (x : Int) / 64 = (k : Int) := by omega
  have e2 : (x : Int) % 64 = (r : Int) := by omega
  have hki : (k : Int) < (m : Int) := by omega
  have HM := hide hm
  have HK := hide hk
  have HR := hide hr'
  have hsh : IntKind.u64.wrap (2 ^ r) = ((2 ^ r : Nat) : Int) := pow64 r (by omega)
  have HO : Hid (bits .or .u64 (W : Int) (2 ^ r) = ((W ||| 2 ^ r : Nat) : Int)) := by
    rw [show ((2 : Int) ^ r) = ((2 ^ r : Nat) : Int) from by simp]; exact hor
  clear hor
  have hk2 : k < 1024 := by omega
  have hm2 : m ≤ 1024 := by omega
  have hr2 : r < 64 := by omega
  clear h hx hm hk hr' hle hl
  go_enter Tryd.func24, Tryd.ntmps24
  go_wp2_with (go_at_call 52; refine hr.mono ?_; rintro e w1 ⟨rfl, rfl⟩)
  go_region
  rw [unhide HO]
  go_wp2
  go_ret
  exact ⟨rfl, (unhide HP).drew, (unhide HU).drew⟩
end Go.Proofs.YtinfmomhbegfhaaDoor
