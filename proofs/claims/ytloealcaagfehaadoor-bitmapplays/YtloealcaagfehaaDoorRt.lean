/- The document's set as bytes. -/
import Derived.Test.YtloealcaagfehaaDoorRm
import Derived.Test.YtloealcaagfehaaDoorBt
import Derived.Test.YtloealcaagfehaaDoorLs
namespace Go.Proofs.YtloealcaagfehaaDoor
open Go.RowKit

namespace Bit
/-- the bytes of the numbers below i, as cells -/
def bs (T i : Nat) : List Value := (List.range ((i + 7) / 8)).map fun j => Value.int .u8 ((byte T j : Nat) : Int)
theorem bs_length (T i : Nat) : (bs T i).length = (i + 7) / 8 := by simp [bs]
theorem byte_zero {T i : Nat} (h : T < 2 ^ i) (j : Nat) (hj : i ≤ 8 * j) : byte T j = 0 := by
  rw [byte, Nat.div_eq_of_lt (Nat.lt_of_lt_of_le h (Nat.pow_le_pow_right (by decide) hj))]
theorem bs_more {T i : Nat} (h : T < 2 ^ i) (h8 : i % 8 = 0) : bs T i ++ [Value.int .u8 0] = bs T (i + 1) := by
  rw [bs, bs, show (i + 1 + 7) / 8 = (i + 7) / 8 + 1 from by omega, List.range_succ, List.map_append, List.map_singleton, byte_zero h _ (by omega)]
  rfl
theorem bs_same {T i : Nat} (h8 : i % 8 ≠ 0) : bs T i = bs T (i + 1) := by
  rw [bs, bs, show (i + 1 + 7) / 8 = (i + 7) / 8 from by omega]
theorem mod_skip {S i : Nat} (h : S.testBit i = false) : S % 2 ^ (i + 1) = S % 2 ^ i := Nat.eq_of_testBit_eq fun j => by
  rw [Nat.testBit_mod_two_pow, Nat.testBit_mod_two_pow]
  by_cases hj : j = i
  · subst hj; simp [h]
  · have e : (j < i + 1) ↔ (j < i) := by omega
    simp only [e]
theorem byte_hit {S i : Nat} (h : S.testBit i = true) : byte (S % 2 ^ i) (i / 8) + 2 ^ (i % 8) = byte (S % 2 ^ (i + 1)) (i / 8) := by
  have hlow : byte (S % 2 ^ i) (i / 8) < 2 ^ (i % 8) := Nat.lt_pow_two_of_testBit _ fun j hj => by
    rw [byte_bit, Nat.testBit_mod_two_pow, decide_eq_false (p := 8 * (i / 8) + j < i) (by omega)]
    simp
  rw [Nat.add_comm, ← Nat.mul_one (2 ^ (i % 8)), Nat.two_pow_add_eq_or_of_lt hlow, Nat.mul_one]
  apply Nat.eq_of_testBit_eq
  intro j
  rw [Nat.testBit_or, Nat.testBit_two_pow, byte_bit, byte_bit, Nat.testBit_mod_two_pow, Nat.testBit_mod_two_pow]
  by_cases hj : j < 8
  · by_cases e : i % 8 = j
    · have e2 : 8 * (i / 8) + j = i := by omega
      rw [e2]
      simp [e, hj, h]
    · have e2 : (8 * (i / 8) + j < i + 1) ↔ (8 * (i / 8) + j < i) := by omega
      simp [e, e2]
  · have e : i % 8 ≠ j := by omega
    simp [hj, e]
theorem byte_hit_other {S i j : Nat} (hj : j ≠ i / 8) : byte (S % 2 ^ (i + 1)) j = byte (S % 2 ^ i) j := by
  apply Nat.eq_of_testBit_eq
  intro k
  rw [byte_bit, byte_bit, Nat.testBit_mod_two_pow, Nat.testBit_mod_two_pow]
  by_cases hk : k < 8
  · have e : (8 * j + k < i + 1) ↔ (8 * j + k < i) := by omega
    simp only [e]
  · simp [hk]
theorem bs_set {S i : Nat} (h : S.testBit i = true) : (bs (S % 2 ^ i) (i + 1)).set (i / 8) (.int .u8 ((byte (S % 2 ^ i) (i / 8) + 2 ^ (i % 8) : Nat) : Int)) = bs (S % 2 ^ (i + 1)) (i + 1) := by
  apply List.ext_getElem
  · rw [List.length_set, bs_length, bs_length]
  · intro j h1 h2
    rw [List.getElem_set]
    by_cases e : i / 8 = j
    · subst e
      rw [if_pos rfl, byte_hit h]
      simp [bs]
    · rw [if_neg e]
      simp only [bs, List.getElem_map, List.getElem_range]
      rw [byte_hit_other (fun e' => e e'.symm)]
end Bit
theorem own_set {u : World} {base n cap g : Nat} {e : TypeId} {xs : List Value} (h : u.ownsRow base e 1 (.slice (some ⟨g, 0, none⟩) n cap) n xs) (j : Nat) (v : Value) :
    (u.setCell ⟨g, j, none⟩ v).ownsRow base e 1 (.slice (some ⟨g, 0, none⟩) n cap) n (xs.set j v) := by
  refine ⟨by rw [List.length_set]; exact h.1, ?_⟩
  rcases h.2 with ⟨h0, _⟩ | ⟨g', cap', cur, h1, h2, h3, h4, h5, h6, h7⟩
  · cases h0
  · obtain ⟨rfl, rfl⟩ : g = g' ∧ cap = cap' := by simp at h1; exact h1
    refine .inr ⟨g, cap, cur.setIfInBounds j v, rfl, h2, heapCell_same h3 _ _, h4, h5, by simpa using h6, ?_⟩
    rw [Array.toList_setIfInBounds, List.take_set, h7]
theorem own_ge2 {u : World} {base n cap g : Nat} {e : TypeId} {xs : List Value} (h : u.ownsRow base e 1 (.slice (some ⟨g, 0, none⟩) n cap) n xs) : base ≤ g := own_geR h (by simp [Value.ownBlock])
theorem rToldNil (w : World) : Calls Tryd.prog 10 #[.pointer none] w fun e w' => e = .returned (.string ⟨#[]⟩) ∧ w' = w := by
  go_enter Tryd.func10, Tryd.ntmps10
  go_wp2
  go_ret
  exact ⟨rfl, rfl⟩
set_option maxRecDepth 100000 in
set_option maxHeartbeats 2000000 in
theorem rTold {p q n S : Nat} {w : World} (h : Rm w p q n S) : Calls Tryd.prog 10 #[.pointer (some ⟨p, 0, none⟩)] w fun e w' => e = .returned (.string ⟨(Bit.told S n).toArray⟩) ∧ Below w.heap.size w w' := by
  obtain ⟨i0, hi, hz0, hz1, hz2⟩ := info_parts infoU8
  have HR := hide (fun (u : World) (hb : Below w.heap.size w u) => h.below hb)
  have hle := h.le
  have HLT := hide h.lt
  clear h
  go_enter Tryd.func10, Tryd.ntmps10
  go_wp2
  go_loopw [3, 4] (fun v i wr => ∃ k : Nat, k ≤ n ∧ i = .int .i64 k ∧ Hid (wr.ownsRow w.heap.size 5 1 v ((k + 7) / 8) (Bit.bs (S % 2 ^ k) k) ∧ Below w.heap.size w wr)) (fun _ i _ => n - (intOf i).toNat)
  case atStart => exact ⟨0, Nat.zero_le _, rfl, hide ⟨World.ownsRow_nil _ _ _ _, Below.refl _ _⟩⟩
  case round =>
    obtain ⟨k, hk, rfl, HI⟩ := hrel
    have HRw := hide (unhide HR wr (unhide HI).2)
    obtain ⟨cap, hc0⟩ := (unhide HRw).c0
    by_cases hlt : k < n
    · have hki : (k : Int) < (n : Int) := by omega
      have hcb := (unhide HRw).b k hlt
      have hT : S % 2 ^ k < 2 ^ k := Nat.mod_lt _ (Nat.pow_pos (by decide))
      have hown := (unhide HI).1
      have hbel := (unhide HI).2
      clear HI
      cases hbt : S.testBit k with
      | true =>
        rw [hbt] at hcb
        by_cases h8 : k % 8 = 0
        · have h8i : (k : Int) % 8 = 0 := by omega
          have HMO := hide (Bit.bs_more hT h8)
          go_wp2_with (at_builtin; refine wpList_put _ rfl (.tmp 19) (.tmp 20) 65 rfl w.heap.size 5 i0 (.int .u8 0) 1 1 Tryd.underlying65 hi hz0 hz1 hz2 rfl (by decide) _ _ _ rfl (hown.alloc _) ⟨wr.heap.size, 0, none⟩ 1 1 [.int .u8 0] rfl rfl (cell_one_new _ _ _) (by simp [Value.oneCell']) (by simp only [maxLen]; omega) (by omega) (by have := hbel.size; simp; omega) ?_; intro v' w5 hown' hgrow hnew; clear hnew; obtain ⟨g, cap2, rfl⟩ := ownsRow_succ hown'; have hbel5 : Below w.heap.size w w5 := (hbel.alloc hbel.size _).grown hgrow (by have := hbel.size; simp; omega) (fun k e => own_geR hown e); have hown5 : w5.ownsRow w.heap.size 5 1 (.slice (some ⟨g, 0, none⟩) ((k + 7) / 8 + 1) cap2) ((k + 1 + 7) / 8) (Bit.bs (S % 2 ^ k) (k + 1)) := (by rw [← unhide HMO, show (k + 1 + 7) / 8 = (k + 7) / 8 + 1 from by omega]; exact hown'); have HR5 := hide (unhide HR w5 hbel5); obtain ⟨cap5, hc05⟩ := (unhide HR5).c0; have hcb5 := (unhide HR5).b k hlt; rw [hbt] at hcb5; clear hown' hgrow hown hbel HRw hc0 hcb)
          rw [show (k + 7) / 8 + 1 = (k + 1 + 7) / 8 from by omega] at hown5
          rw [show (k + 7) / 8 + 1 = (k + 1 + 7) / 8 from by omega]
          obtain ⟨L, hL⟩ : ∃ L, L = (k + 1 + 7) / 8 := ⟨_, rfl⟩
          rw [← hL] at hown5
          obtain ⟨a, ha⟩ : ∃ a, a = k / 8 := ⟨_, rfl⟩
          obtain ⟨r, hr⟩ : ∃ r, r = k % 8 := ⟨_, rfl⟩
          have haL : a < L := by omega
          have hcell : w5.cell? ⟨g, a, none⟩ = some (.int .u8 ((Bit.byte (S % 2 ^ k) a : Nat) : Int)) := by
            rw [hown5.cellAt a (by omega)]
            simp [Bit.bs, ← hL, haL]
          have hfz : w5.frozen? ⟨g, a, none⟩ = false := by
            rcases hown5.2 with ⟨h0, _⟩ | ⟨g2, c2, cur, h1, _, h3, _⟩
            · cases h0
            · obtain ⟨rfl, rfl⟩ : g = g2 ∧ cap2 = c2 := by simp at h1; exact h1
              simp [World.frozen?, h3]
          have hsum := Bit.byte_hit hbt
          have hbl := Bit.byte_lt (S % 2 ^ (k + 1)) (k / 8)
          rw [← hsum, ← ha, ← hr] at hbl
          have HSET := hide (Bit.bs_set hbt)
          rw [← ha, ← hr] at HSET
          have HNEW := hide (own_set hown5 a (.int .u8 ((Bit.byte (S % 2 ^ k) a + 2 ^ r : Nat) : Int)))
          rw [unhide HSET] at HNEW
          have HGE : Hid (w.heap.size ≤ g) := own_ge2 hown5
          have HPo := hide (fun u => rPower r (by omega) u)
          generalize Bit.byte (S % 2 ^ k) a = Y at *
          generalize 2 ^ r = P2 at *
          have e1 : (k : Int) / 8 = (a : Int) := by omega
          have e2 : (k : Int) % 8 = (r : Int) := by omega
          have hai : (a : Int) < (L : Int) := by omega
          have hw8 : IntKind.u8.wrap (P2 : Int) = (P2 : Int) := by rw [IntKind.wrap_u8]; omega
          have hw9 : IntKind.u8.wrap ((Y : Int) + (P2 : Int)) = ((Y + P2 : Nat) : Int) := by rw [IntKind.wrap_u8]; omega
          have hr2 : r < 8 := by omega
          have hwa : IntKind.i64.wrap (a : Int) = (a : Int) := wrap_small _ (by omega) (by omega)
          have hrm : (k : Int).tmod 8 = (r : Int) := by rw [Int.tmod_eq_emod_of_nonneg (by omega)]; exact e2
          have HLL := hide hL
          have hL2 : L ≤ 8193 := by omega
          have HBE := hide hbel5
          rw [← hL]
          clear hown5 hsum HSET hL ha hr hbl hbel5 h8 h8i
          refine wp_region_last (fun u => u.cell? ⟨g, a, none⟩ = some (.int .u8 (Y : Int)) ∧ u.frozen? ⟨g, a, none⟩ = false) 14 (by kernel_rfl) ⟨hcell, hfz⟩ fun hS => ?_
          refine wpAnyL_take 0 29 (.slice (some ⟨g, 0, none⟩) L cap2) [] rfl rfl (by kernel_rfl) (by kernel_rfl) (by kernel_rfl) (by kernel_rfl) (by kernel_rfl) (fun _ _ _ h => h) (by rfl) (fun u _ => by go_simp) hS ?_
          simp only [Act.put, List.setIfInBounds_toArray, List.set_cons_zero, List.set_cons_succ]
          refine wpAnyL_take 1 30 (.int .i64 (k : Int)) [] rfl rfl (by kernel_rfl) (by kernel_rfl) (by kernel_rfl) (by kernel_rfl) (by kernel_rfl) (fun _ _ _ h => h) (by rfl) (fun u _ => by go_simp) hS ?_
          simp only [Act.put, List.setIfInBounds_toArray, List.set_cons_zero, List.set_cons_succ]
          refine wpAnyL_take 2 31 (.int .i64 (a : Int)) [] rfl rfl (by kernel_rfl) (by kernel_rfl) (by kernel_rfl) (by kernel_rfl) (by kernel_rfl) (fun _ _ _ h => h) (by rfl) (fun u _ => by go_simp) hS ?_
          simp only [Act.put, List.setIfInBounds_toArray, List.set_cons_zero, List.set_cons_succ]
          refine wpAnyL_take 3 32 (.slice (some ⟨g, 0, none⟩) L cap2) [] rfl rfl (by kernel_rfl) (by kernel_rfl) (by kernel_rfl) (by kernel_rfl) (by kernel_rfl) (fun _ _ _ h => h) (by rfl) (fun u _ => by go_simp) hS ?_
          simp only [Act.put, List.setIfInBounds_toArray, List.set_cons_zero, List.set_cons_succ]
          refine wpAnyL_take 4 33 (.int .i64 (k : Int)) [] rfl rfl (by kernel_rfl) (by kernel_rfl) (by kernel_rfl) (by kernel_rfl) (by kernel_rfl) (fun _ _ _ h => h) (by rfl) (fun u _ => by go_simp) hS ?_
          simp only [Act.put, List.setIfInBounds_toArray, List.set_cons_zero, List.set_cons_succ]
          refine wpAnyL_take 5 34 (.int .i64 (a : Int)) [] rfl rfl (by kernel_rfl) (by kernel_rfl) (by kernel_rfl) (by kernel_rfl) (by kernel_rfl) (fun _ _ _ h => h) (by rfl) (fun u _ => by go_simp) hS ?_
          simp only [Act.put, List.setIfInBounds_toArray, List.set_cons_zero, List.set_cons_succ]
          refine wpAnyL_take 6 35 (.pointer (some ⟨g, a, none⟩)) [] rfl rfl (by kernel_rfl) (by kernel_rfl) (by kernel_rfl) (by kernel_rfl) (by kernel_rfl) (fun _ _ _ h => h) (by rfl) (fun u _ => by go_simp) hS ?_
          simp only [Act.put, List.setIfInBounds_toArray, List.set_cons_zero, List.set_cons_succ]
          refine wpAnyL_take 7 36 (.int .u8 (Y : Int)) [] rfl rfl (by kernel_rfl) (by kernel_rfl) (by kernel_rfl) (by kernel_rfl) (by kernel_rfl) (fun _ _ _ h => h) (by rfl) (fun u hu => by obtain ⟨s1, s2⟩ := hu; go_simp) hS ?_
          simp only [Act.put, List.setIfInBounds_toArray, List.set_cons_zero, List.set_cons_succ]
          refine wpAnyL_take 8 37 (.int .i64 (k : Int)) [] rfl rfl (by kernel_rfl) (by kernel_rfl) (by kernel_rfl) (by kernel_rfl) (by kernel_rfl) (fun _ _ _ h => h) (by rfl) (fun u _ => by go_simp) hS ?_
          simp only [Act.put, List.setIfInBounds_toArray, List.set_cons_zero, List.set_cons_succ]
          refine wpAnyL_take 9 38 (.int .i64 (r : Int)) [] rfl rfl (by kernel_rfl) (by kernel_rfl) (by kernel_rfl) (by kernel_rfl) (by kernel_rfl) (fun _ _ _ h => h) (by rfl) (fun u _ => by go_simp) hS ?_
          simp only [Act.put, List.setIfInBounds_toArray, List.set_cons_zero, List.set_cons_succ]
          refine wpAnyL_one (i := 10) (by kernel_rfl) rfl (by rfl) fun K hK => ?_
          go_simp
          refine (unhide HPo _).mono ?_
          rintro e w1 ⟨rfl, hw1⟩
          obtain rfl := hw1.symm
          refine hK _ _ (fun _ => hS) ?_
          clear hK K hw1
          refine wpAnyL_take 11 40 (.int .u8 (P2 : Int)) [] rfl rfl (by kernel_rfl) (by kernel_rfl) (by kernel_rfl) (by kernel_rfl) (by kernel_rfl) (fun _ _ _ h => h) (by rfl) (fun u _ => by go_simp) hS ?_
          simp only [Act.put, List.setIfInBounds_toArray, List.set_cons_zero, List.set_cons_succ]
          refine wpAnyL_take 12 41 (.int .u8 ((Y + P2 : Nat) : Int)) [] rfl rfl (by kernel_rfl) (by kernel_rfl) (by kernel_rfl) (by kernel_rfl) (by kernel_rfl) (fun _ _ _ h => h) (by rfl) (fun u _ => by go_simp) hS ?_
          simp only [Act.put, List.setIfInBounds_toArray, List.set_cons_zero, List.set_cons_succ]
          refine wpAnyL_take 13 42 (.pointer (some ⟨g, a, none⟩)) [] rfl rfl (by kernel_rfl) (by kernel_rfl) (by kernel_rfl) (by kernel_rfl) (by kernel_rfl) (fun _ _ _ h => h) (by rfl) (fun u _ => by go_simp) hS ?_
          simp only [Act.put, List.setIfInBounds_toArray, List.set_cons_zero, List.set_cons_succ]
          refine wpAnyL_one (i := 14) (by kernel_rfl) rfl (by rfl) fun K hK => ?_
          obtain ⟨s1, s2⟩ := hS
          go_simp
          refine hK _ _ (fun h => absurd rfl h) ?_
          clear hK K
          refine wpAnyL_done (by kernel_rfl) ?_ _
          go_wp2
          go_roundw
          case rel => exact ⟨k + 1, by omega, by go_num, hide ⟨by rw [← unhide HLL]; exact unhide HNEW, belowDrew (belowCell (unhide HBE) (unhide HGE) _)⟩⟩
          case measure => simp [intOf]; omega
        · have h8i : ¬ (k : Int) % 8 = 0 := by omega
          have hown5 := hown
          have hbel5 := hbel
          rw [Bit.bs_same h8, show (k + 7) / 8 = (k + 1 + 7) / 8 from by omega] at hown5
          obtain ⟨g, cap2, rfl⟩ : ∃ g cap2, u3 = .slice (some ⟨g, 0, none⟩) ((k + 1 + 7) / 8) cap2 := by
            have h := hown5
            rw [show (k + 1 + 7) / 8 = k / 8 + 1 from by omega] at h ⊢
            exact ownsRow_succ h
          clear hown hbel
          go_wp2
          obtain ⟨L, hL⟩ : ∃ L, L = (k + 1 + 7) / 8 := ⟨_, rfl⟩
          rw [← hL] at hown5
          obtain ⟨a, ha⟩ : ∃ a, a = k / 8 := ⟨_, rfl⟩
          obtain ⟨r, hr⟩ : ∃ r, r = k % 8 := ⟨_, rfl⟩
          have haL : a < L := by omega
          have hcell : wr.cell? ⟨g, a, none⟩ = some (.int .u8 ((Bit.byte (S % 2 ^ k) a : Nat) : Int)) := by
            rw [hown5.cellAt a (by omega)]
            simp [Bit.bs, ← hL, haL]
          have hfz : wr.frozen? ⟨g, a, none⟩ = false := by
            rcases hown5.2 with ⟨h0, _⟩ | ⟨g2, c2, cur, h1, _, h3, _⟩
            · cases h0
            · obtain ⟨rfl, rfl⟩ : g = g2 ∧ cap2 = c2 := by simp at h1; exact h1
              simp [World.frozen?, h3]
          have hsum := Bit.byte_hit hbt
          have hbl := Bit.byte_lt (S % 2 ^ (k + 1)) (k / 8)
          rw [← hsum, ← ha, ← hr] at hbl
          have HSET := hide (Bit.bs_set hbt)
          rw [← ha, ← hr] at HSET
          have HNEW := hide (own_set hown5 a (.int .u8 ((Bit.byte (S % 2 ^ k) a + 2 ^ r : Nat) : Int)))
          rw [unhide HSET] at HNEW
          have HGE : Hid (w.heap.size ≤ g) := own_ge2 hown5
          have HPo := hide (fun u => rPower r (by omega) u)
          generalize Bit.byte (S % 2 ^ k) a = Y at *
          generalize 2 ^ r = P2 at *
          have e1 : (k : Int) / 8 = (a : Int) := by omega
          have e2 : (k : Int) % 8 = (r : Int) := by omega
          have hai : (a : Int) < (L : Int) := by omega
          have hw8 : IntKind.u8.wrap (P2 : Int) = (P2 : Int) := by rw [IntKind.wrap_u8]; omega
          have hw9 : IntKind.u8.wrap ((Y : Int) + (P2 : Int)) = ((Y + P2 : Nat) : Int) := by rw [IntKind.wrap_u8]; omega
          have hr2 : r < 8 := by omega
          have hwa : IntKind.i64.wrap (a : Int) = (a : Int) := wrap_small _ (by omega) (by omega)
          have hrm : (k : Int).tmod 8 = (r : Int) := by rw [Int.tmod_eq_emod_of_nonneg (by omega)]; exact e2
          have HLL := hide hL
          have hL2 : L ≤ 8193 := by omega
          have HBE := hide hbel5
          rw [← hL]
          clear hown5 hsum HSET hL ha hr hbl hbel5 h8 h8i
          refine wp_region_last (fun u => u.cell? ⟨g, a, none⟩ = some (.int .u8 (Y : Int)) ∧ u.frozen? ⟨g, a, none⟩ = false) 14 (by kernel_rfl) ⟨hcell, hfz⟩ fun hS => ?_
          refine wpAnyL_take 0 29 (.slice (some ⟨g, 0, none⟩) L cap2) [] rfl rfl (by kernel_rfl) (by kernel_rfl) (by kernel_rfl) (by kernel_rfl) (by kernel_rfl) (fun _ _ _ h => h) (by rfl) (fun u _ => by go_simp) hS ?_
          simp only [Act.put, List.setIfInBounds_toArray, List.set_cons_zero, List.set_cons_succ]
          refine wpAnyL_take 1 30 (.int .i64 (k : Int)) [] rfl rfl (by kernel_rfl) (by kernel_rfl) (by kernel_rfl) (by kernel_rfl) (by kernel_rfl) (fun _ _ _ h => h) (by rfl) (fun u _ => by go_simp) hS ?_
          simp only [Act.put, List.setIfInBounds_toArray, List.set_cons_zero, List.set_cons_succ]
          refine wpAnyL_take 2 31 (.int .i64 (a : Int)) [] rfl rfl (by kernel_rfl) (by kernel_rfl) (by kernel_rfl) (by kernel_rfl) (by kernel_rfl) (fun _ _ _ h => h) (by rfl) (fun u _ => by go_simp) hS ?_
          simp only [Act.put, List.setIfInBounds_toArray, List.set_cons_zero, List.set_cons_succ]
          refine wpAnyL_take 3 32 (.slice (some ⟨g, 0, none⟩) L cap2) [] rfl rfl (by kernel_rfl) (by kernel_rfl) (by kernel_rfl) (by kernel_rfl) (by kernel_rfl) (fun _ _ _ h => h) (by rfl) (fun u _ => by go_simp) hS ?_
          simp only [Act.put, List.setIfInBounds_toArray, List.set_cons_zero, List.set_cons_succ]
          refine wpAnyL_take 4 33 (.int .i64 (k : Int)) [] rfl rfl (by kernel_rfl) (by kernel_rfl) (by kernel_rfl) (by kernel_rfl) (by kernel_rfl) (fun _ _ _ h => h) (by rfl) (fun u _ => by go_simp) hS ?_
          simp only [Act.put, List.setIfInBounds_toArray, List.set_cons_zero, List.set_cons_succ]
          refine wpAnyL_take 5 34 (.int .i64 (a : Int)) [] rfl rfl (by kernel_rfl) (by kernel_rfl) (by kernel_rfl) (by kernel_rfl) (by kernel_rfl) (fun _ _ _ h => h) (by rfl) (fun u _ => by go_simp) hS ?_
          simp only [Act.put, List.setIfInBounds_toArray, List.set_cons_zero, List.set_cons_succ]
          refine wpAnyL_take 6 35 (.pointer (some ⟨g, a, none⟩)) [] rfl rfl (by kernel_rfl) (by kernel_rfl) (by kernel_rfl) (by kernel_rfl) (by kernel_rfl) (fun _ _ _ h => h) (by rfl) (fun u _ => by go_simp) hS ?_
          simp only [Act.put, List.setIfInBounds_toArray, List.set_cons_zero, List.set_cons_succ]
          refine wpAnyL_take 7 36 (.int .u8 (Y : Int)) [] rfl rfl (by kernel_rfl) (by kernel_rfl) (by kernel_rfl) (by kernel_rfl) (by kernel_rfl) (fun _ _ _ h => h) (by rfl) (fun u hu => by obtain ⟨s1, s2⟩ := hu; go_simp) hS ?_
          simp only [Act.put, List.setIfInBounds_toArray, List.set_cons_zero, List.set_cons_succ]
          refine wpAnyL_take 8 37 (.int .i64 (k : Int)) [] rfl rfl (by kernel_rfl) (by kernel_rfl) (by kernel_rfl) (by kernel_rfl) (by kernel_rfl) (fun _ _ _ h => h) (by rfl) (fun u _ => by go_simp) hS ?_
          simp only [Act.put, List.setIfInBounds_toArray, List.set_cons_zero, List.set_cons_succ]
          refine wpAnyL_take 9 38 (.int .i64 (r : Int)) [] rfl rfl (by kernel_rfl) (by kernel_rfl) (by kernel_rfl) (by kernel_rfl) (by kernel_rfl) (fun _ _ _ h => h) (by rfl) (fun u _ => by go_simp) hS ?_
          simp only [Act.put, List.setIfInBounds_toArray, List.set_cons_zero, List.set_cons_succ]
          refine wpAnyL_one (i := 10) (by kernel_rfl) rfl (by rfl) fun K hK => ?_
          go_simp
          refine (unhide HPo _).mono ?_
          rintro e w1 ⟨rfl, hw1⟩
          obtain rfl := hw1.symm
          refine hK _ _ (fun _ => hS) ?_
          clear hK K hw1
          refine wpAnyL_take 11 40 (.int .u8 (P2 : Int)) [] rfl rfl (by kernel_rfl) (by kernel_rfl) (by kernel_rfl) (by kernel_rfl) (by kernel_rfl) (fun _ _ _ h => h) (by rfl) (fun u _ => by go_simp) hS ?_
          simp only [Act.put, List.setIfInBounds_toArray, List.set_cons_zero, List.set_cons_succ]
          refine wpAnyL_take 12 41 (.int .u8 ((Y + P2 : Nat) : Int)) [] rfl rfl (by kernel_rfl) (by kernel_rfl) (by kernel_rfl) (by kernel_rfl) (by kernel_rfl) (fun _ _ _ h => h) (by rfl) (fun u _ => by go_simp) hS ?_
          simp only [Act.put, List.setIfInBounds_toArray, List.set_cons_zero, List.set_cons_succ]
          refine wpAnyL_take 13 42 (.pointer (some ⟨g, a, none⟩)) [] rfl rfl (by kernel_rfl) (by kernel_rfl) (by kernel_rfl) (by kernel_rfl) (by kernel_rfl) (fun _ _ _ h => h) (by rfl) (fun u _ => by go_simp) hS ?_
          simp only [Act.put, List.setIfInBounds_toArray, List.set_cons_zero, List.set_cons_succ]
          refine wpAnyL_one (i := 14) (by kernel_rfl) rfl (by rfl) fun K hK => ?_
          obtain ⟨s1, s2⟩ := hS
          go_simp
          refine hK _ _ (fun h => absurd rfl h) ?_
          clear hK K
          refine wpAnyL_done (by kernel_rfl) ?_ _
          go_wp2
          go_roundw
          case rel => exact ⟨k + 1, by omega, by go_num, hide ⟨by rw [← unhide HLL]; exact unhide HNEW, belowDrew (belowCell (unhide HBE) (unhide HGE) _)⟩⟩
          case measure => simp [intOf]; omega
      | false =>
        rw [hbt] at hcb
        have HMS := hide (Bit.mod_skip hbt)
        by_cases h8 : k % 8 = 0
        · have h8i : (k : Int) % 8 = 0 := by omega
          have HMO := hide (Bit.bs_more hT h8)
          go_wp2_with (at_builtin; refine wpList_put _ rfl (.tmp 19) (.tmp 20) 65 rfl w.heap.size 5 i0 (.int .u8 0) 1 1 Tryd.underlying65 hi hz0 hz1 hz2 rfl (by decide) _ _ _ rfl (hown.alloc _) ⟨wr.heap.size, 0, none⟩ 1 1 [.int .u8 0] rfl rfl (cell_one_new _ _ _) (by simp [Value.oneCell']) (by simp only [maxLen]; omega) (by omega) (by have := hbel.size; simp; omega) ?_; intro v' w5 hown' hgrow hnew; clear hnew; obtain ⟨g, cap2, rfl⟩ := ownsRow_succ hown'; have hbel5 : Below w.heap.size w w5 := (hbel.alloc hbel.size _).grown hgrow (by have := hbel.size; simp; omega) (fun k e => own_geR hown e); have hown5 : w5.ownsRow w.heap.size 5 1 (.slice (some ⟨g, 0, none⟩) ((k + 7) / 8 + 1) cap2) ((k + 1 + 7) / 8) (Bit.bs (S % 2 ^ k) (k + 1)) := (by rw [← unhide HMO, show (k + 1 + 7) / 8 = (k + 7) / 8 + 1 from by omega]; exact hown'); have HR5 := hide (unhide HR w5 hbel5); obtain ⟨cap5, hc05⟩ := (unhide HR5).c0; have hcb5 := (unhide HR5).b k hlt; rw [hbt] at hcb5; clear hown' hgrow hown hbel HRw hc0 hcb)
          go_roundw
          case rel => exact ⟨k + 1, by omega, by go_num, hide ⟨by rw [unhide HMS]; rw [show (k + 7) / 8 + 1 = (k + 1 + 7) / 8 from by omega] at hown5; rw [show (k + 7) / 8 + 1 = (k + 1 + 7) / 8 from by omega]; exact hown5, hbel5⟩⟩
          case measure => simp [intOf]; omega
        · have h8i : ¬ (k : Int) % 8 = 0 := by omega
          rw [Bit.bs_same h8, show (k + 7) / 8 = (k + 1 + 7) / 8 from by omega] at hown
          go_wp2
          go_roundw
          case rel => exact ⟨k + 1, by omega, by go_num, hide ⟨by rw [unhide HMS]; exact hown, hbel⟩⟩
          case measure => simp [intOf]; omega
    · have hkk : k = n := by omega
      subst hkk
      have hS : S % 2 ^ k = S := Nat.mod_eq_of_lt (unhide HLT)
      rw [hS] at HI
      rcases (unhide HI).1.2 with ⟨rfl, h0⟩ | ⟨g, cap2, cur, rfl, _⟩
      · have hk0 : Bit.told S k = [] := by rw [Bit.told, h0]; rfl
        have hcv : (convert 65 9 (.slice none 0 0)).run Tryd.prog wr = .ok (.string ⟨#[]⟩) wr := by kernel_rfl
        have HB := hide (unhide HI).2
        have HK := hide hk0
        clear HI hk0 h0
        go_wp2
        go_ret
        refine ⟨?_, unhide HB⟩
        rw [unhide HK]
        rfl
      · have hcv : (convert 65 9 (.slice (some ⟨g, 0, none⟩) ((k + 7) / 8) cap2)).run Tryd.prog wr = .ok (.string ⟨(Bit.told S k).toArray⟩) wr := by
          have hb := run_convert_bytes_back wr 65 9 5 ⟨g, 0, none⟩ cap2 (Bit.told S k) Tryd.underlying65 Tryd.underlying5 Tryd.underlying9 fun j hj => by
            rw [Bit.told_length] at hj
            have e : (⟨g, 0, none⟩ : Addr).add j = ⟨g, j, none⟩ := by cases j <;> simp [Addr.add]
            rw [e, (unhide HI).1.cellAt j (by omega)]
            have hb := Bit.byte_lt S j
            simp [Bit.bs, Bit.told, hj]
            omega
          rw [Bit.told_length] at hb
          exact hb
        have HB := hide (unhide HI).2
        obtain ⟨L, hL⟩ : ∃ L, L = (k + 7) / 8 := ⟨_, rfl⟩
        rw [← hL] at hcv
        rw [← hL]
        obtain ⟨ts, hts⟩ : ∃ ts, ts = Bit.told S k := ⟨_, rfl⟩
        rw [← hts] at hcv
        have HTS := hide hts
        have HLL := hide hL
        clear HI hL hts
        go_wp2
        go_ret
        refine ⟨?_, unhide HB⟩
        rw [← unhide HTS]
        rfl
end Go.Proofs.YtloealcaagfehaaDoor
