/- The document's joined sums. -/
import Derived.Test.YtpjepndeppckdaaDoorCrcW
namespace Go.Proofs.YtpjepndeppckdaaDoor
open Go.RowKit Crc

/-- the matrix of a product -/
def pm (q i : Nat) : Nat := pd (2 ^ i) q
theorem pm_lt (q i : Nat) (hi : i < 32) : pm q i < 4294967296 := pd_lt _ q (Nat.pow_lt_pow_right (by decide) hi)
theorem pm_put (q A : Nat) (hA : A < 4294967296) : mp (pm q) 32 A = pd A q := by
  rw [mp_lin (fun a => pd a q) (pr_zero 32 q) (fun a b => pr_xor 32 a b q) (pm q) 32 A (fun i _ => rfl), Nat.mod_eq_of_lt hA]
theorem pm_twice (q i : Nat) (hi : i < 32) (hq : q < 4294967296) : mp (pm q) 32 (pm q i) = pm (pd q q) i := by
  rw [pm_put q _ (pm_lt q i hi)]
  exact (pd_assoc (2 ^ i) q q (Nat.pow_lt_pow_right (by decide) hi) hq).symm
theorem pm_first (i : Nat) : stn 8 (2 ^ i) = pm (2 ^ 23) i := (pd_byte (2 ^ i)).symm
/-- the state of the loops in Joined -/
def Jw (q : Nat) (w wr : World) (k : Nat) (ts : Array Value) : Prop :=
  ts.size = 32 ∧ (∀ j, j < k → ts[j]? = some (.int .u32 (pm q j : Nat))) ∧ wr.heap[w.heap.size]? = some (.cells ts 61 (0, 0)) ∧ Below w.heap.size w wr
theorem Jw.start (q : Nat) (w : World) (A : Array Value) (hA : A.size = 32) : Jw q w (w.alloc (.cells A 61)) 0 A :=
  ⟨hA, fun _ hj => absurd hj (Nat.not_lt_zero _), heap_alloc_new _ _, (Below.refl _ _).alloc (Nat.le_refl _) _⟩
theorem Jw.next {q : Nat} {w wr : World} {k : Nat} {ts : Array Value} (h : Jw q w wr k ts) (hk : k < 32) :
    Jw q w (wr.setCell ⟨w.heap.size, k, none⟩ (.int .u32 (pm q k : Nat))) (k + 1) (ts.setIfInBounds k (.int .u32 (pm q k : Nat))) := by
  obtain ⟨h1, h2, h6, h7⟩ := h
  refine ⟨by simpa using h1, ?_, heapCell_same h6 _ _, belowCell h7 (Nat.le_refl _) _⟩
  intro j hj
  rw [Array.getElem?_setIfInBounds]
  by_cases hjk : k = j
  · subst hjk; rw [if_pos rfl, if_pos (by omega)]
  · rw [if_neg hjk]; exact h2 j (by omega)
theorem Jw.below {q : Nat} {w wr wr' : World} {k : Nat} {ts : Array Value} (h : Jw q w wr k ts) (hb : Below wr.heap.size wr wr') : Jw q w wr' k ts :=
  ⟨h.1, h.2.1, (hb.block _ (Array.getElem?_eq_some_iff.1 h.2.2.1).1).trans h.2.2.1, h.2.2.2.trans (hb.mono h.2.2.2.size)⟩
theorem Jw.row {q q' : Nat} {w wr : World} {ts ts' : Array Value} (h : Jw q w wr 32 ts) (hs : ts'.size = 32) (hc : ∀ j, j < 32 → ts'[j]? = some (.int .u32 (pm q' j : Nat))) : Jw q' w (wr.setRow w.heap.size ts') 32 ts' :=
  ⟨hs, hc, heapRow_same h.2.2.1 ts', belowRow h.2.2.2 (Nat.le_refl _) _⟩
theorem shl_one (k : Nat) (hk : k < 32) : (2 : Int) ^ k % 4294967296 = ((2 ^ k : Nat) : Int) := by
  have h : 2 ^ k < 4294967296 := Nat.pow_lt_pow_right (by decide) hk
  have e : ((2 : Int) ^ k) = ((2 ^ k : Nat) : Int) := by simp
  rw [e]; generalize 2 ^ k = p at *; omega
set_option maxRecDepth 100000 in
set_option maxHeartbeats 800000 in
theorem mJoined (a b : Nat) (n : Int) (w : World) (ha : a < 4294967296) (hb : b < 4294967296) (hn : n < 9223372036854775808) :
    Calls Tryd.prog 15 #[.int .u32 a, .int .u32 b, .int .i64 n] w fun e w' => e = .returned (.int .u32 (joinS a b n : Nat)) ∧ Below w.heap.size w w' := by
  have hu := Tryd.underlying61
  go_enter Tryd.func15, Tryd.ntmps15
  go_wp2
  go_loopw [8] (fun i wr => ∃ k : Nat, ∃ ts : Array Value, k ≤ 32 ∧ i = .int .i64 k ∧ Hid (Jw (2 ^ 23) w wr k ts)) (fun i _ => 32 - (intOf i).toNat)
  case atStart => exact ⟨0, _, Nat.zero_le _, rfl, hide (Jw.start _ w _ rfl)⟩
  case round =>
    obtain ⟨k, ts, hk, rfl, HI⟩ := hrel
    by_cases hlt : k < 32
    · have hts := (unhide HI).2.2.1
      obtain ⟨t0, ht0⟩ : ∃ v, ts[k]? = some v := ⟨ts[k]'(by rw [(unhide HI).1]; exact hlt), Array.getElem?_eq_getElem _⟩
      have hd : wr.cell? ⟨w.heap.size, k, none⟩ = some t0 := by simp [World.cell?, hts, ht0]
      have hfz : wr.frozen? ⟨w.heap.size, k, none⟩ = false := by simp [World.frozen?, hts]
      have HN := hide ((unhide HI).next hlt)
      have hsh := shl_one k hlt
      have hpl : 2 ^ k < 4294967296 := Nat.pow_lt_pow_right (by decide) hlt
      have hpf := pm_first k
      clear hts ht0
      generalize 2 ^ k = P at hsh hpl hpf
      have HPF := hide hpf
      clear hpf
      go_wp2_with fail
      refine (cStep P _ hpl).mono ?_
      rintro e w1 ⟨rfl, rfl⟩
      rw [unhide HPF]
      go_wp2
      go_roundw
      case rel => exact ⟨k + 1, _, by omega, by go_num, hide (unhide HN)⟩
      case measure => simp [intOf]; omega
    · have hkk : k = 32 := by omega
      subst hkk
      have hx0 : Hid (pn n.toNat a (2 ^ 23) = pn n.toNat a (2 ^ 23)) := rfl
      go_wp2
      go_loopw [0, 2] (fun x y wr => ∃ (A q : Nat) (M : Int) (ts : Array Value), x = .int .u32 A ∧ y = .int .i64 M ∧ A < 4294967296 ∧ q < 4294967296 ∧ M < 9223372036854775808 ∧ Hid (Jw q w wr 32 ts ∧ pn M.toNat A q = pn n.toNat a (2 ^ 23))) (fun _ y _ => (intOf y).toNat)
      case atStart => exact ⟨a, 2 ^ 23, n, _, rfl, rfl, ha, by decide, hn, hide ⟨unhide HI, rfl⟩⟩
      case round =>
        obtain ⟨A, q, M, ts2, rfl, rfl, hA, hq, hM, HJ⟩ := hrel
        by_cases hz : 0 < M
        · have HL := hide (fun i hi => pm_lt q i hi : ∀ i, i < 32 → pm q i < 4294967296)
          have hs2 := (unhide HJ).1.1
          have hi2 : (Tryd.prog.info? 61).map (·.size) = some ts2.size := by rw [infoM, hs2]
          have hrow := (unhide HJ).1.2.2.1
          have hr : M.tmod 2 = M % 2 := Int.tmod_eq_emod_of_nonneg (by omega)
          have hd : M.tdiv 2 = M / 2 := Int.tdiv_eq_ediv_of_nonneg (by omega)
          have HS := hide hs2
          clear hs2
          by_cases h2 : M % 2 = 1
          · have hb1 : (M.tmod 2 == 1) = true := by rw [hr, h2]; rfl
            go_wp2_with (refine wpList_load_row rfl 61 (.tmp 7) rfl w.heap.size rfl 61 ts2 (0, 0) _ hrow hu rfl hi2 ?_)
            refine (mPut (pm q) ts2 A _ (unhide HJ).1.2.1 (unhide HL)).mono ?_
            rintro e w1 ⟨rfl, rfl⟩
            rw [pm_put q A hA]
            have HJ2 := hide ((unhide HJ).1.below ((Below.refl _ _).alloc (Nat.le_refl _) (.cells ts2 61)))
            have HPN : Hid (pn (M / 2).toNat (pd A q) (pd q q) = pn n.toNat a (2 ^ 23)) := by
              rw [show (M / 2).toNat = M.toNat / 2 from by omega]
              exact hide ((pn_odd M.toNat A q hA hq (by omega)).trans (unhide HJ).2)
            clear hrow
            have hrow2 := (unhide HJ2).2.2.1
            generalize wr.alloc (.cells ts2 61) = wr2 at *
            go_wp2_with (refine wpList_load_row rfl 61 (.tmp 7) rfl w.heap.size rfl 61 ts2 (0, 0) _ hrow2 hu rfl hi2 ?_)
            refine (mTwice (pm q) ts2 _ (unhide HS) (unhide HJ).1.2.1 (unhide HL)).mono ?_
            rintro e w2 ⟨⟨cs', rfl, hs', hc'⟩, hb2⟩
            have HJ3 := hide ((unhide HJ2).below hb2)
            have hc3 : ∀ j, j < 32 → cs'[j]? = some (.int .u32 (pm (pd q q) j : Nat)) := fun j hj => by rw [hc' j hj, pm_twice q j hj hq]
            have HJ4 := hide ((unhide HJ3).row hs' hc3)
            have hi3 : (Tryd.prog.info? 61).map (·.size) = some cs'.size := by rw [infoM, hs']
            have hrow3 := (unhide HJ3).2.2.1
            have ho3 := one_all hs' hc3
            have hss : ts2.size = cs'.size := by rw [hs', unhide HS]
            have HO3 := hide ho3
            have HSS := hide hss
            clear hs' hc' hb2 hc3 hrow2 ho3 hss
            go_wp2_with (refine wpList_store_row rfl 61 (.tmp 7) (.tmp 29) rfl w.heap.size cs' rfl rfl 61 ts2 hrow3 hi3 (unhide HSS) (unhide HO3) ?_)
            go_roundw
            case rel => exact ⟨pd A q, pd q q, M / 2, cs', rfl, by go_num, pd_lt A q hA, pd_lt q q hq, by omega, hide ⟨unhide HJ4, (unhide HPN)⟩⟩
            case measure => simp [intOf]; omega
          · have hb1 : (M.tmod 2 == 1) = false := by rw [hr, beq_eq_false_iff_ne]; omega
            have HJ2 := hide (unhide HJ).1
            have HPN : Hid (pn (M / 2).toNat A (pd q q) = pn n.toNat a (2 ^ 23)) := by
              rw [show (M / 2).toNat = M.toNat / 2 from by omega]
              exact hide ((pn_even M.toNat A q hA hq (by omega)).trans (unhide HJ).2)
            go_wp2_with (refine wpList_load_row rfl 61 (.tmp 7) rfl w.heap.size rfl 61 ts2 (0, 0) _ hrow hu rfl hi2 ?_)
            refine (mTwice (pm q) ts2 _ (unhide HS) (unhide HJ).1.2.1 (unhide HL)).mono ?_
            rintro e w2 ⟨⟨cs', rfl, hs', hc'⟩, hb2⟩
            have HJ3 := hide ((unhide HJ2).below hb2)
            have hc3 : ∀ j, j < 32 → cs'[j]? = some (.int .u32 (pm (pd q q) j : Nat)) := fun j hj => by rw [hc' j hj, pm_twice q j hj hq]
            have HJ4 := hide ((unhide HJ3).row hs' hc3)
            have hi3 : (Tryd.prog.info? 61).map (·.size) = some cs'.size := by rw [infoM, hs']
            have hrow3 := (unhide HJ3).2.2.1
            have ho3 := one_all hs' hc3
            have hss : ts2.size = cs'.size := by rw [hs', unhide HS]
            have HO3 := hide ho3
            have HSS := hide hss
            clear hs' hc' hb2 hc3 hrow ho3 hss
            go_wp2_with (refine wpList_store_row rfl 61 (.tmp 7) (.tmp 29) rfl w.heap.size cs' rfl rfl 61 ts2 hrow3 hi3 (unhide HSS) (unhide HO3) ?_)
            go_roundw
            case rel => exact ⟨A, pd q q, M / 2, cs', rfl, by go_num, hA, pd_lt q q hq, by omega, hide ⟨unhide HJ4, (unhide HPN)⟩⟩
            case measure => simp [intOf]; omega
        · have hx := x32 A b hA hb
          have hj : joinS a b n = A ^^^ b := by
            unfold joinS
            rw [← (unhide HJ).2, show M.toNat = 0 from by omega]; rfl
          have HJS := hide hj
          clear hj
          go_wp2
          go_ret
          exact ⟨by rw [unhide HJS]; rfl, (unhide HJ).1.2.2.2⟩
end Go.Proofs.YtpjepndeppckdaaDoor
