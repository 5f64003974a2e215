/- The page: sums (of the wire's texts). -/
import Derived.Test.YtfdfbjijomepgaaDoorPa
import Derived.Test.YtfdfbjijomepgaaDoorCrc
import Derived.Laws.BitsAllLaws
import Derived.Deep.LoopGhost
namespace Go.Proofs.YtfdfbjijomepgaaDoor
open Go.RowKit Crc
/-- the table of four steps lies in memory -/
def Tab (w : World) : Prop := ∀ i, i < 16 → w.cell? ⟨0, i, none⟩ = some (.int .u32 (tab i))
theorem x32 (a b : Nat) (ha : a < 4294967296) (hb : b < 4294967296) : bits .xor .u32 (a : Int) (b : Int) = ((a ^^^ b : Nat) : Int) := u32_xor_nat a b ha hb
theorem not32 (a : Nat) (ha : a < 4294967296) : bits .xor .u32 IntKind.u32.max (a : Int) = ((4294967295 - a : Nat) : Int) := by
  show IntKind.u32.wrap ((BitVec.ofInt 32 4294967295 ^^^ BitVec.ofInt 32 (a : Int)).toNat : Int) = _
  have h2 : BitVec.ofInt 32 4294967295 = BitVec.allOnes 32 := by decide
  rw [h2, BitVec.allOnes_xor, BitVec.toNat_not, ofInt_u32 a (by omega), IntKind.wrap_u32]
  omega
theorem take_snoc' (s : ByteArray) (k : Nat) (h : k < s.size) : s.data.toList.take (k + 1) = s.data.toList.take k ++ [s[k]] := by
  rw [List.take_succ_eq_append_getElem (by simpa using h)]; rfl
theorem tab_lt (i : Nat) (h : i < 16) : tab i < 4294967296 := by
  rw [← tab_eq i h]; exact stn_lt 4 i (by omega)
theorem and15 (y : Nat) (hy : y < 4294967296) : bits .and .u32 (y : Int) 15 = ((y % 16 : Nat) : Int) := by
  have h := u32_and_nat y 15 hy (by decide)
  rw [show ((15 : Nat) : Int) = 15 from rfl] at h
  rw [h]
  congr 1
  exact Nat.and_two_pow_sub_one_eq_mod y 4
theorem half (y : Nat) (hy : y < 4294967296) : bits .xor .u32 ((y : Int) / 16) ((tab (y % 16) : Nat) : Int) = ((stn 4 y : Nat) : Int) := by
  have e : ((y : Int) / 16) = ((y / 16 : Nat) : Int) := by omega
  rw [e, x32 _ _ (by omega) (tab_lt _ (by omega)), four y]
set_option maxRecDepth 100000 in
set_option maxHeartbeats 400000 in
theorem cOn (c : Nat) (s : ByteArray) (w : World) (hc : c < 4294967296) (hm : s.size ≤ 1125899906842624) (ht : Tab w) :
    Calls Tryd.prog 82 #[.int .u32 c, .string s] w fun e w' => e = .returned (.int .u32 (4294967295 - fold s.data.toList (4294967295 - c) : Nat)) ∧ w' = w := by
  have HT := hide ht
  clear ht
  have hn := not32 c hc
  go_enter Tryd.func82, Tryd.ntmps82
  go_wp2
  go_loop [5, 11] (fun v i => ∃ k x : Nat, k ≤ s.size ∧ i = .int .i64 k ∧ v = .int .u32 x ∧ x < 4294967296 ∧ Hid (x = fold (s.data.toList.take k) (4294967295 - c))) (fun _ i => s.size - (intOf i).toNat)
  case atStart => exact ⟨0, 4294967295 - c, Nat.zero_le _, rfl, rfl, by omega, rfl⟩
  case round =>
    obtain ⟨k, x, hk, rfl, rfl, hx, HX⟩ := hrel
    clear hn
    by_cases hlt : k < s.size
    · obtain ⟨y, e1, hy, Y⟩ : ∃ y : Nat, bits .xor .u32 (x : Int) ((s[k].toNat : Int) % 4294967296) = (y : Int) ∧ y < 4294967296 ∧ Hid (y = x ^^^ s[k].toNat) := by
        have hb := s[k].toNat_lt
        have e : ((s[k].toNat : Int) % 4294967296) = ((s[k].toNat : Nat) : Int) := by omega
        refine ⟨x ^^^ s[k].toNat, ?_, ?_, rfl⟩
        · rw [e, x32 _ _ hx (by omega)]
        · exact Nat.xor_lt_two_pow (n := 32) hx (by omega)
      obtain ⟨m, t, e2, hm1, c1, M⟩ : ∃ m t : Nat, bits .and .u32 (y : Int) 15 = (m : Int) ∧ m < 16 ∧ w.cell? ⟨0, m, none⟩ = some (.int .u32 t) ∧ Hid (m = y % 16 ∧ t = tab m) :=
        ⟨y % 16, tab (y % 16), and15 y hy, by omega, unhide HT _ (by omega), rfl, rfl⟩
      obtain ⟨z, e3, hz, Z⟩ : ∃ z : Nat, bits .xor .u32 ((y : Int) / 16) (t : Int) = (z : Int) ∧ z < 4294967296 ∧ Hid (z = stn 4 y) := by
        obtain ⟨M1, M2⟩ := unhide M
        refine ⟨stn 4 y, ?_, stn_lt 4 y (by omega), rfl⟩
        rw [M2, M1, half y hy]
      obtain ⟨m', t', e4, hm2, c2, M'⟩ : ∃ m t : Nat, bits .and .u32 (z : Int) 15 = (m : Int) ∧ m < 16 ∧ w.cell? ⟨0, m, none⟩ = some (.int .u32 t) ∧ Hid (m = z % 16 ∧ t = tab m) :=
        ⟨z % 16, tab (z % 16), and15 z hz, by omega, unhide HT _ (by omega), rfl, rfl⟩
      obtain ⟨x', e5, hx', X'⟩ : ∃ x' : Nat, bits .xor .u32 ((z : Int) / 16) (t' : Int) = (x' : Int) ∧ x' < 4294967296 ∧ Hid (x' = stn 4 z) := by
        obtain ⟨M1, M2⟩ := unhide M'
        refine ⟨stn 4 z, ?_, stn_lt 4 z (by omega), rfl⟩
        rw [M2, M1, half z hz]
      go_wp2
      go_round
      case rel =>
        refine ⟨k + 1, x', by omega, by go_num, rfl, hx', ?_⟩
        show x' = _
        rw [take_snoc' s k hlt, fold_append, ← unhide HX, unhide X', unhide Z, unhide Y]
        rfl
      case measure => simp [intOf]; omega
    · have hn := not32 x hx
      go_wp2
      go_ret
      have hkk : k = s.size := by omega
      rw [unhide HX, List.take_of_length_le (by rw [Array.length_toList]; show s.size ≤ k; omega)]
      exact ⟨rfl, rfl⟩

theorem cSum (s : ByteArray) (w : World) (hm : s.size ≤ 1125899906842624) (ht : Tab w) :
    Calls Tryd.prog 75 #[.string s] w fun e w' => e = .returned (.int .u32 (4294967295 - fold s.data.toList 4294967295 : Nat)) ∧ w' = w := by
  have HO := hide (cOn 0 s w (by decide) hm ht)
  clear ht
  go_enter Tryd.func75, Tryd.ntmps75
  go_wp2_with fail
  refine (unhide HO).mono ?_
  rintro e w1 ⟨rfl, rfl⟩
  go_wp2
  go_ret
  exact ⟨rfl, rfl⟩
theorem st_odd (x : Nat) (hx : x < 4294967296) (h : x % 2 = 1) : bits .xor .u32 ((x : Int) / 2) 2197175160 = ((st x : Nat) : Int) := by
  have e : ((x : Int) / 2) = ((x / 2 : Nat) : Int) := by omega
  have e2 : (2197175160 : Int) = ((P : Nat) : Int) := rfl
  rw [e, e2, x32 _ _ (by omega) (by decide), st, if_pos h, Nat.shiftRight_eq_div_pow]
theorem st_even (x : Nat) (h : ¬ x % 2 = 1) : ((x : Int) / 2) = ((st x : Nat) : Int) := by
  rw [st, if_neg h, Nat.shiftRight_eq_div_pow, Nat.xor_zero]
  omega
set_option maxHeartbeats 400000 in
theorem cStep (c : Nat) (w : World) (hc : c < 4294967296) :
    Calls Tryd.prog 78 #[.int .u32 c] w fun e w' => e = .returned (.int .u32 (stn 8 c : Nat)) ∧ w' = w := by
  go_enter Tryd.func78, Tryd.ntmps78
  go_wp2
  go_loop [0, 3] (fun v i => ∃ k x : Nat, k ≤ 8 ∧ i = .int .i64 k ∧ v = .int .u32 x ∧ x < 4294967296 ∧ Hid (stn (8 - k) x = stn 8 c)) (fun _ i => 8 - (intOf i).toNat)
  case atStart => exact ⟨0, c, Nat.zero_le _, rfl, rfl, hc, rfl⟩
  case round =>
    obtain ⟨k, x, hk, rfl, rfl, hx, HX⟩ := hrel
    by_cases hlt : k < 8
    · have hs : Hid (stn (8 - (k + 1)) (st x) = stn 8 c) := by
        have := unhide HX
        rw [show 8 - k = 8 - (k + 1) + 1 from by omega] at this
        exact this
      have hl := st_lt x hx
      by_cases h2 : x % 2 = 1
      · have hb : ((x : Int) % 2 == 1) = true := by rw [beq_iff_eq]; omega
        have e1 := st_odd x hx h2
        clear HX h2
        generalize st x = x' at *
        go_wp2
        go_round
        case rel => exact ⟨k + 1, x', by omega, by go_num, rfl, hl, hs⟩
        case measure => simp [intOf]; omega
      · have hb : ((x : Int) % 2 == 1) = false := by rw [beq_eq_false_iff_ne]; omega
        have e1 := st_even x h2
        clear HX h2
        generalize st x = x' at *
        go_wp2
        go_round
        case rel => exact ⟨k + 1, x', by omega, by go_num, rfl, hl, hs⟩
        case measure => simp [intOf]; omega
    · go_wp2
      go_ret
      have := unhide HX
      rw [show 8 - k = 0 from by omega] at this
      rw [← this]
      exact ⟨rfl, rfl⟩
set_option maxHeartbeats 400000 in
theorem mOn (c : Nat) (s : ByteArray) (w : World) (hc : c < 4294967296) (hm : s.size ≤ 1125899906842624) :
    Calls Tryd.prog 68 #[.int .u32 c, .string s] w fun e w' => e = .returned (.int .u32 (4294967295 - fold s.data.toList (4294967295 - c) : Nat)) ∧ w' = w := by
  have hn := not32 c hc
  go_enter Tryd.func68, Tryd.ntmps68
  go_wp2
  go_loop [5, 6] (fun v i => ∃ k x : Nat, k ≤ s.size ∧ i = .int .i64 k ∧ v = .int .u32 x ∧ x < 4294967296 ∧ Hid (x = fold (s.data.toList.take k) (4294967295 - c))) (fun _ i => s.size - (intOf i).toNat)
  case atStart => exact ⟨0, 4294967295 - c, Nat.zero_le _, rfl, rfl, by omega, rfl⟩
  case round =>
    obtain ⟨k, x, hk, rfl, rfl, hx, HX⟩ := hrel
    clear hn
    by_cases hlt : k < s.size
    · obtain ⟨y, e1, hy, Y⟩ : ∃ y : Nat, bits .xor .u32 (x : Int) ((s[k].toNat : Int) % 4294967296) = (y : Int) ∧ y < 4294967296 ∧ Hid (y = x ^^^ s[k].toNat) := by
        have hb := s[k].toNat_lt
        have e : ((s[k].toNat : Int) % 4294967296) = ((s[k].toNat : Nat) : Int) := by omega
        refine ⟨x ^^^ s[k].toNat, ?_, ?_, rfl⟩
        · rw [e, x32 _ _ hx (by omega)]
        · exact Nat.xor_lt_two_pow (n := 32) hx (by omega)
      go_wp2_with fail
      refine (cStep y _ hy).mono ?_
      rintro e w1 ⟨rfl, rfl⟩
      go_wp2
      go_round
      case rel =>
        refine ⟨k + 1, stn 8 y, by omega, by go_num, rfl, stn_lt 8 y hy, ?_⟩
        show stn 8 y = _
        rw [take_snoc' s k hlt, fold_append, ← unhide HX, unhide Y]
        rfl
      case measure => simp [intOf]; omega
    · have hn := not32 x hx
      go_wp2
      go_ret
      have hkk : k = s.size := by omega
      rw [unhide HX, List.take_of_length_le (by rw [Array.length_toList]; show s.size ≤ k; omega)]
      exact ⟨rfl, rfl⟩
theorem mSum (s : ByteArray) (w : World) (hm : s.size ≤ 1125899906842624) :
    Calls Tryd.prog 60 #[.string s] w fun e w' => e = .returned (.int .u32 (4294967295 - fold s.data.toList 4294967295 : Nat)) ∧ w' = w := by
  have HO := hide (mOn 0 s w (by decide) hm)
  go_enter Tryd.func60, Tryd.ntmps60
  go_wp2_with fail
  refine (unhide HO).mono ?_
  rintro e w1 ⟨rfl, rfl⟩
  go_wp2
  go_ret
  exact ⟨rfl, rfl⟩
end Go.Proofs.YtfdfbjijomepgaaDoor
