/- The document's set in memory: New, Len, power, Each. -/
import Derived.Test.YtloealcaagfehaaDoorBnl
import Derived.Test.YtloealcaagfehaaDoorBeg
namespace Go.Proofs.YtloealcaagfehaaDoor
open Go.RowKit

/-- the document's set: of each number below n whether it is in -/
structure Rm (u : World) (p q n S : Nat) : Prop where
  hd : ∃ cap, u.heap[p]? = some (.cells #[.slice (some ⟨q, 0, none⟩) n cap] 72 (0, 0))
  row : ∃ cs, u.heap[q]? = some (.cells cs 4 (0, 0)) ∧ ∀ i, i < n → cs[i]? = some (.bool (S.testBit i))
  lt : S < 2 ^ n
  le : n ≤ 65536
theorem Rm.plt {u : World} {p q n S : Nat} (h : Rm u p q n S) : p < u.heap.size := by obtain ⟨_, h⟩ := h.hd; exact (Array.getElem?_eq_some_iff.1 h).1
theorem Rm.qlt {u : World} {p q n S : Nat} (h : Rm u p q n S) : q < u.heap.size := by obtain ⟨_, h, _⟩ := h.row; exact (Array.getElem?_eq_some_iff.1 h).1
theorem Rm.ne {u : World} {p q n S : Nat} (h : Rm u p q n S) : p ≠ q := by
  rintro rfl
  obtain ⟨_, h1⟩ := h.hd
  obtain ⟨_, h2, _⟩ := h.row
  rw [h1] at h2
  injection h2 with h3
  injection h3 with _ h4 _
  exact absurd h4 (by decide)
theorem Rm.keep {u u' : World} {p q n S : Nat} (h : Rm u p q n S) (hp : u'.heap[p]? = u.heap[p]?) (hq : u'.heap[q]? = u.heap[q]?) : Rm u' p q n S := by
  obtain ⟨cap, h1⟩ := h.hd
  obtain ⟨cs, h2, h3⟩ := h.row
  exact ⟨⟨cap, hp.trans h1⟩, ⟨cs, hq.trans h2, h3⟩, h.lt, h.le⟩
theorem Rm.below {u u' : World} {p q n S : Nat} (h : Rm u p q n S) (hb : Below u.heap.size u u') : Rm u' p q n S := h.keep (hb.block p h.plt) (hb.block q h.qlt)
theorem Rm.belowB {u u' : World} {p q n S B : Nat} (h : Rm u p q n S) (hb : Below B u u') (hp : p < B) (hq : q < B) : Rm u' p q n S := h.keep (hb.block p hp) (hb.block q hq)
theorem Rm.drewN {u : World} {p q n S : Nat} (h : Rm u p q n S) (k : Nat) : Rm (u.drewN k) p q n S := h.keep rfl rfl
theorem Rm.c0 {u : World} {p q n S : Nat} (h : Rm u p q n S) : ∃ cap, u.cell? ⟨p, 0, none⟩ = some (.slice (some ⟨q, 0, none⟩) n cap) := by obtain ⟨cap, h1⟩ := h.hd; exact ⟨cap, by simp [World.cell?, h1]⟩
theorem Rm.b {u : World} {p q n S : Nat} (h : Rm u p q n S) (i : Nat) (hi : i < n) : u.cell? ⟨q, i, none⟩ = some (.bool (S.testBit i)) := by obtain ⟨cs, h1, h2⟩ := h.row; simp [World.cell?, h1, h2 i hi]
theorem Rm.fz {u : World} {p q n S : Nat} (h : Rm u p q n S) (i : Nat) : u.frozen? ⟨q, i, none⟩ = false := by obtain ⟨cs, h1, h2⟩ := h.row; simp [World.frozen?, h1]
/-- one place is laid anew -/
theorem Rm.lay {u : World} {p q n S T k : Nat} {b : Bool} (h : Rm u p q n S) (hk : k < n) (hb : b = T.testBit k) (hT : ∀ i, i ≠ k → T.testBit i = S.testBit i) : Rm (u.setCell ⟨q, k, none⟩ (.bool b)) p q n T := by
  obtain ⟨cap, h1⟩ := h.hd
  obtain ⟨cs, h2, h3⟩ := h.row
  refine ⟨⟨cap, (Deep.blk_setCell_other u ⟨q, k, none⟩ _ p h.ne).trans h1⟩, ⟨_, heapCell_same h2 _ _, fun i hi => ?_⟩, ?_, h.le⟩
  · rw [Array.getElem?_setIfInBounds]
    by_cases e : k = i
    · subst e
      rw [if_pos rfl, if_pos (by have := h3 k hi; exact (Array.getElem?_eq_some_iff.1 this).1), hb]
    · rw [if_neg e, h3 i hi, hT i (Ne.symm e)]
  · refine Nat.lt_pow_two_of_testBit _ fun j hj => ?_
    rw [hT j (by omega)]
    exact Nat.testBit_lt_two_pow (Nat.lt_of_lt_of_le h.lt (Nat.pow_le_pow_right (by decide) hj))
theorem own_geR {u : World} {base size n k : Nat} {e : TypeId} {v : Value} {xs : List Value} (h : u.ownsRow base e size v n xs) (hk : v.ownBlock = some k) : base ≤ k := by
  rcases h.2 with ⟨rfl, _⟩ | ⟨g, cap, cur, rfl, hg, _⟩
  · simp [Value.ownBlock] at hk
  · simp [Value.ownBlock] at hk
    omega
theorem infoBo : (Tryd.prog.info? 4).map (fun i => (i.zero, i.size, i.bytes)) = some (some (.bool false), 1, 1) := by kernel_rfl
theorem rNew (n : Nat) (hn : n ≤ 65536) (w : World) : Calls Tryd.prog 42 #[.int .i64 (n : Int)] w fun e w' => ∃ p q, e = .returned (.tuple #[.pointer (some ⟨p, 0, none⟩), .int .i64 0]) ∧ w.heap.size ≤ p ∧ w.heap.size ≤ q ∧ Rm w' p q n 0 ∧ Below w.heap.size w w' := by
  have hmk := run_make_row' (P := Tryd.prog) 70 4 (.bool false) 1 Tryd.underlying70 infoBo rfl .i64 .i64 n (by omega) (by omega)
  have h0 : ¬ (n : Int) < 0 := by omega
  have h1 : ¬ (65536 : Int) < (n : Int) := by omega
  go_enter Tryd.func42, Tryd.ntmps42
  go_wp2_with (first | (refine wpList_buildTo (by rfl) 72 #[(0, .tmp 11)] (by rfl) (some 12) (by rfl) #[.slice (some ⟨w.heap.size, 0, none⟩) n n] (by kernel_rfl) ?_) | (refine wpList_box_row (by rfl) 72 (.tmp 12) (by rfl) (some 13) (by rfl) (w.heap.size + 1) (by simp) #[.slice (some ⟨w.heap.size, 0, none⟩) n n] (by rfl) ?_; intro W2 HR2 HB2 HS2))
  go_ret2
  have hb := (Below.refl w.heap.size w).alloc (Nat.le_refl _) (.cells (madeCells #[.bool false] n) 4)
  have hb2 := (unhide HB2).mono (Nat.le_succ w.heap.size)
  refine ⟨w.heap.size + 1, rfl, by omega, w.heap.size, Nat.le_refl _, ⟨⟨_, unhide HR2⟩, ⟨_, ((unhide HB2).block w.heap.size (by omega)).trans (heap_alloc_new _ _), fun i hi => ?_⟩, Nat.pow_pos (by decide), hn⟩, hb.trans hb2⟩
  rw [Nat.zero_testBit]
  simp [madeCells, hi, Nat.mod_one]
theorem rNewBad (x : Int) (hx : x < 0 ∨ 65536 < x) (w : World) : Calls Tryd.prog 42 #[.int .i64 x] w fun e w' => e = .returned (.tuple #[.pointer none, .int .i64 1]) ∧ w' = w := by
  by_cases h0 : x < 0
  · clear hx
    go_enter Tryd.func42, Tryd.ntmps42
    go_wp2
    go_ret2
    exact ⟨rfl, rfl⟩
  · have h1 : 65536 < x := by omega
    clear hx
    go_enter Tryd.func42, Tryd.ntmps42
    go_wp2
    go_ret2
    exact ⟨rfl, rfl⟩
theorem rLen {p q n S : Nat} {w : World} (h : Rm w p q n S) : Calls Tryd.prog 12 #[.pointer (some ⟨p, 0, none⟩)] w fun e w' => e = .returned (.int .i64 (n : Int)) ∧ w' = w := by
  obtain ⟨cap, hc⟩ := h.c0
  clear h
  go_enter Tryd.func12, Tryd.ntmps12
  go_wp2
  go_ret
  exact ⟨rfl, rfl⟩
theorem rLenNil (w : World) : Calls Tryd.prog 12 #[.pointer none] w fun e w' => e = .returned (.int .i64 0) ∧ w' = w := by
  go_enter Tryd.func12, Tryd.ntmps12
  go_wp2
  go_ret
  exact ⟨rfl, rfl⟩
theorem rPower (i : Nat) (hi : i < 8) (w : World) : Calls Tryd.prog 40 #[.int .i64 (i : Int)] w fun e w' => e = .returned (.int .i64 ((2 ^ i : Nat) : Int)) ∧ w' = w := by
  go_enter Tryd.func40, Tryd.ntmps40
  go_wp2
  go_loopw [3, 4] (fun p k wr => ∃ (j P : Nat), j ≤ i ∧ k = .int .i64 j ∧ p = .int .i64 (P : Int) ∧ Hid (P = 2 ^ j) ∧ wr = w) (fun _ k _ => i - (intOf k).toNat)
  case atStart => exact ⟨0, 1, Nat.zero_le _, rfl, rfl, hide rfl, rfl⟩
  case round =>
    obtain ⟨j, P, hj, rfl, rfl, HP, rfl⟩ := hrel
    by_cases hlt : j < i
    · have hli : (j : Int) < (i : Int) := by omega
      have hPb : P ≤ 256 := by
        rw [unhide HP]
        exact Nat.le_trans (Nat.pow_le_pow_right (by decide) (show j ≤ 8 by omega)) (by decide)
      have HN : Hid (2 * P = 2 ^ (j + 1)) := by show _ = _; rw [unhide HP, Nat.pow_succ, Nat.mul_comm]
      go_wp2
      go_roundw
      case rel => exact ⟨j + 1, 2 * P, by omega, by go_num, by go_num, hide (unhide HN), trivial⟩
      case measure => simp [intOf]; omega
    · have hji : j = i := by omega
      subst hji
      go_wp2
      go_ret
      refine ⟨?_, rfl⟩
      rw [← unhide HP]
      rfl
set_option maxRecDepth 100000 in
set_option maxHeartbeats 2000000 in
theorem rEach {p q n S : Nat} {w : World} (h : Rm w p q n S) : Calls Tryd.prog 15 #[.pointer (some ⟨p, 0, none⟩)] w fun e w' => ∃ v, e = .returned v ∧ w'.ownsRow w.heap.size 3 1 v (Bit.els S n 0).length ((Bit.els S n 0).map fun y => Value.int .i64 ((y : Nat) : Int)) ∧ Below w.heap.size w w' := by
  obtain ⟨i0, hi, hz0, hz1, hz2⟩ := info_parts infoI
  have HR := hide (fun (u : World) (hb : Below w.heap.size w u) => h.below hb)
  have hle := h.le
  clear h
  go_enter Tryd.func15, Tryd.ntmps15
  go_wp2
  go_loopw [3, 4] (fun v i wr => ∃ k : Nat, k ≤ n ∧ i = .int .i64 k ∧ Hid (wr.ownsRow w.heap.size 3 1 v (Bit.els S k 0).length ((Bit.els S k 0).map fun y => Value.int .i64 ((y : Nat) : Int)) ∧ Below w.heap.size w wr)) (fun _ i _ => n - (intOf i).toNat)
  case atStart => exact ⟨0, Nat.zero_le _, rfl, hide ⟨World.ownsRow_nil _ _ _ _, Below.refl _ _⟩⟩
  case round =>
    obtain ⟨k, hk, rfl, HI⟩ := hrel
    have HRw := hide (unhide HR wr (unhide HI).2)
    by_cases hlt : k < n
    · have hki : (k : Int) < (n : Int) := by omega
      obtain ⟨cap, hc0⟩ := (unhide HRw).c0
      have hcb := (unhide HRw).b k hlt
      have hpl : (Bit.els S k 0).length ≤ k := Bit.els_length_le S k
      have HST : Hid (Bit.els S (k + 1) 0 = Bit.els S k 0 ++ (if S.testBit k then [k] else [])) := by
        show _ = _
        rw [Bit.els_split S (k + 1) k (Nat.le_succ k)]
        congr 1
        by_cases hb : S.testBit k = true
        · rw [if_pos hb, Bit.els_hit (Nat.lt_succ_self k) hb, Bit.els_beyond (Nat.le_refl _)]
        · rw [if_neg hb, Bit.els_skip (Nat.lt_succ_self k) (by simpa using hb), Bit.els_beyond (Nat.le_refl _)]
      go_wp2_with fail
      refine (rLen (unhide HRw)).mono ?_
      rintro e w1 ⟨rfl, hw⟩
      obtain rfl := hw.symm
      clear hw
      cases hbt : S.testBit k with
      | true =>
        rw [hbt] at hcb HST
        have HST' : Hid (Bit.els S (k + 1) 0 = Bit.els S k 0 ++ [k]) := by have h := unhide HST; rw [if_pos (by trivial)] at h; exact h
        have hown := (unhide HI).1
        have HBW := hide (unhide HI).2
        clear HI
        go_wp2_with (at_builtin; refine wpList_put _ rfl (.tmp 18) (.tmp 20) 36 rfl w.heap.size 3 i0 (.int .i64 0) 1 8 Tryd.underlying36 hi hz0 hz1 hz2 rfl (by decide) _ _ _ rfl (hown.alloc _) ⟨wr.heap.size, 0, none⟩ 1 1 [.int .i64 (k : Int)] rfl rfl (cell_one_new _ _ _) (by simp [Value.oneCell']) (by simp only [maxLen]; omega) (by omega) (by have := (unhide HBW).size; simp; omega) ?_; intro v' w5 hown' hgrow hnew; clear hnew)
        have hb5 : Below w.heap.size w w5 := ((unhide HBW).alloc (unhide HBW).size _).grown hgrow (by have := (unhide HBW).size; simp; omega) (fun k e => own_geR hown e)
        go_roundw
        case rel => exact ⟨k + 1, by omega, by go_num, hide ⟨by rw [unhide HST', List.length_append, List.map_append]; exact hown', hb5⟩⟩
        case measure => simp [intOf]; omega
      | false =>
        rw [hbt] at hcb HST
        have HST' : Hid (Bit.els S (k + 1) 0 = Bit.els S k 0) := by have h := unhide HST; rw [if_neg (by simp), List.append_nil] at h; exact h
        go_wp2
        go_roundw
        case rel => exact ⟨k + 1, by omega, by go_num, hide ⟨by rw [unhide HST']; exact (unhide HI).1, (unhide HI).2⟩⟩
        case measure => simp [intOf]; omega
    · have hkk : k = n := by omega
      subst hkk
      go_wp2_with fail
      refine (rLen (unhide HRw)).mono ?_
      rintro e w1 ⟨rfl, hw⟩
      obtain rfl := hw.symm
      clear hw
      go_wp2
      go_ret
      exact ⟨_, rfl, (unhide HI).1, (unhide HI).2⟩
end Go.Proofs.YtloealcaagfehaaDoor
