/- What each call of a writer puts. -/
import Derived.Test.YtpjepndeppckdaaWr
import Derived.Laws.BitsAllLaws
import Derived.Laws.IdiomStrings
namespace Go.Proofs.Ytpjepndeppckdaa
open Go.RowKit Go.Lib

/-- the lowest n bytes, the highest first -/
def fixB (v n : Nat) : List UInt8 := (List.range n).map fun i => UInt8.ofNat (v / 256 ^ (n - 1 - i))
theorem fixB_length (v n : Nat) : (fixB v n).length = n := by simp [fixB]
theorem fixB_take (v n k : Nat) (h : k < n) : (fixB v n).take (k + 1) = (fixB v n).take k ++ [UInt8.ofNat (v / 256 ^ (n - 1 - k))] := by
  rw [List.take_succ_eq_append_getElem (by rw [fixB_length]; exact h)]
  simp [fixB]

set_option maxHeartbeats 400000 in
theorem wByte' (a r : Nat) (bs : List UInt8) (b : UInt8) (w : World) (h : Wr w a r bs) (hl : bs.length < 140737488355328) :
    Calls Try.prog 28 #[.pointer (some ⟨a, 0, none⟩), .int .u8 (b.toNat : Int)] w fun e w' => e = .returned (.tuple #[]) ∧ ∃ r', Put w w' a r r' (bs ++ [b]) := by
  obtain ⟨i0, hi, hz0, hz1, hz2⟩ := info_parts info5
  obtain ⟨x, hc, hf, hown, ao, cap, rfl⟩ := h.cellAt
  have hlt := h.1
  go_enter Try.func28, Try.ntmps28
  go_wp2_with (at_builtin; refine wpList_put _ rfl (.tmp 10) (.tmp 12) 68 rfl (a + 1) 5 i0 (.int .u8 0) 1 1 Try.underlying68 hi hz0 hz1 hz2 rfl (by decide) _ _ _ rfl (hown.alloc _) ⟨w.heap.size, 0, none⟩ 1 1 [.int .u8 (b.toNat : Int)] rfl rfl ?c1 ?c2 ?c3 ?c4 ?c5 ?_)
  case c1 => intro j u hj; match j, hj with | 0, hj => simp at hj; subst hj; simp [Addr.add]
  case c2 => intro u hu; simp at hu; subst hu; rfl
  case c3 => unfold maxLen; omega
  case c4 => omega
  case c5 => simp; omega
  intro v' w1 hown' hg hrow
  have hown2 : w1.ownsRow (a + 1) 5 1 v' (bs ++ [b]).length (Bs (bs ++ [b])) := by
    rw [Bs_append, List.length_append]; exact hown'
  have hca : (w.alloc (.cells #[.int .u8 (b.toNat : Int)] 5)).cell? ⟨a, 0, none⟩ = some (.slice ao bs.length cap) := by rw [World.cell?_alloc_past _ _ _ hlt]; exact hc
  have hput := put_of (h.alloc _) hca (by simp; omega) hown2 hg hrow
  obtain ⟨hc1, hf1⟩ := (h.alloc _).cellGrown hca hg
  obtain ⟨ao', cap', rfl⟩ := owns_shape hown'
  have HP := hide hput
  clear hput hown2 hown' hg hrow hca hown
  go_wp2
  go_returns
  obtain ⟨r', hp⟩ := unhide HP
  exact ⟨rfl, r', hp.alloc'⟩
theorem u8_of (v : Int) (h0 : 0 ≤ v) (h1 : v < 256) : v = ((UInt8.ofNat v.toNat).toNat : Int) := by
  have : (UInt8.ofNat v.toNat).toNat = v.toNat := by simp; omega
  rw [this]; omega
theorem wByte (a r : Nat) (bs : List UInt8) (v : Int) (w : World) (h : Wr w a r bs) (h0 : 0 ≤ v) (h1 : v < 256) (hl : bs.length < 140737488355328) :
    Calls Try.prog 28 #[.pointer (some ⟨a, 0, none⟩), .int .u8 v] w fun e w' => e = .returned (.tuple #[]) ∧ ∃ r', Put w w' a r r' (bs ++ [UInt8.ofNat v.toNat]) := by
  have h := wByte' a r bs (UInt8.ofNat v.toNat) w h hl
  rw [← u8_of v h0 h1] at h
  exact h
set_option maxHeartbeats 400000 in
theorem wRaw (a r : Nat) (bs : List UInt8) (s : ByteArray) (w : World) (h : Wr w a r bs) (hl : bs.length + s.size ≤ 140737488355328) :
    Calls Try.prog 36 #[.pointer (some ⟨a, 0, none⟩), .string s] w fun e w' => e = .returned (.tuple #[]) ∧ ∃ r', Put w w' a r r' (bs ++ s.data.toList) := by
  obtain ⟨i0, hi, hz0, hz1, hz2⟩ := info_parts info5
  obtain ⟨x, hc, hf, hown, ao, cap, rfl⟩ := h.cellAt
  have hlt := h.1
  go_enter Try.func36, Try.ntmps36
  go_wp2_with (at_builtin; refine wpList_put_string _ rfl (.tmp 10) (.tmp 11) 68 9 rfl (a + 1) 5 i0 Try.underlying68 Try.underlying9 hi hz0 hz1 hz2 _ _ _ rfl hown s rfl ?c3 ?c4 ?c5 ?_)
  case c3 => unfold maxLen; omega
  case c4 => omega
  case c5 => omega
  intro v' w1 hown' hg hrow
  have hown2 : w1.ownsRow (a + 1) 5 1 v' (bs ++ s.data.toList).length (Bs (bs ++ s.data.toList)) := by
    rw [Bs_append, List.length_append, size_toList]; exact hown'
  have hput := put_of h hc (by rw [List.length_append, size_toList]; exact hl) hown2 hg hrow
  obtain ⟨hc1, hf1⟩ := h.cellGrown hc hg
  obtain ⟨ao', cap', rfl⟩ := owns_shape hown'
  have HP := hide hput
  clear hput hown2 hown' hg hrow hc hf hown
  go_wp2
  go_returns
  exact ⟨rfl, unhide HP⟩

theorem byte_at (v m : Nat) : UInt8.ofNat (((v : Int) / 2 ^ (8 * m) % 256).toNat) = UInt8.ofNat (v / 256 ^ m) := by
  have e : ((v : Int) / 2 ^ (8 * m) % 256).toNat = v / 256 ^ m % 256 := by
    have h1 : ((2 : Int) ^ (8 * m)) = ((2 ^ (8 * m) : Nat) : Int) := by simp
    rw [h1, Nat.pow_mul]
    have h2 : ((v : Int) / ((2 ^ 8) ^ m : Nat) % 256) = ((v / (2 ^ 8) ^ m % 256 : Nat) : Int) := by
      rw [Int.natCast_emod, Int.natCast_ediv]; rfl
    rw [h2]; rfl
  rw [e]
  apply UInt8.toNat.inj
  simp
theorem fixB_mod (v n : Nat) : fixB (v % 256 ^ n) n = fixB v n := by
  unfold fixB
  apply List.map_congr_left
  intro i hi
  have hi : i < n := by simpa using hi
  apply UInt8.toNat.inj
  have e : 256 ^ n = 256 ^ (n - 1 - i) * (256 * 256 ^ i) := by
    rw [← Nat.mul_assoc, ← Nat.pow_succ, ← Nat.pow_add]
    congr 1; omega
  simp only [UInt8.toNat_ofNat']
  rw [e, Nat.mod_mul_right_div_self, Nat.mod_mul_right_mod]
theorem byte_rng (x : Int) : 0 ≤ x % 256 ∧ x % 256 < 256 := by omega
set_option maxHeartbeats 400000 in
theorem wLowest (a r : Nat) (bs : List UInt8) (v : Nat) (n : Nat) (w : World) (h : Wr w a r bs) (hn : n ≤ 8) (hl : bs.length + 8 ≤ 140737488355328) :
    Calls Try.prog 58 #[.pointer (some ⟨a, 0, none⟩), .int .u64 v, .int .i64 n] w fun e w' => e = .returned (.tuple #[]) ∧ ∃ r', Put w w' a r r' (bs ++ fixB v n) := by
  go_enter Try.func58, Try.ntmps58
  go_wp2
  go_loopw [8] (fun i wr => ∃ k r' : Nat, k ≤ n ∧ i = .int .i64 k ∧ Put w wr a r r' (bs ++ (fixB v n).take k)) (fun i _ => n - (intOf i).toNat)
  case atStart => exact ⟨0, r, Nat.zero_le _, rfl, by simpa using Put.refl h⟩
  case round =>
    obtain ⟨k, r1, hk, rfl, hp⟩ := hrel
    by_cases hlt : k < n
    · have H := hide hp
      clear hp
      go_wp2_with fail
      refine (wByte a r1 _ _ _ (unhide H).1 (byte_rng _).1 (byte_rng _).2 ?_).mono ?_
      · have := fixB_length v n; simp; omega
      rintro e w1 ⟨rfl, hp1⟩
      have H1 := hide hp1
      clear hp1
      go_wp2
      go_roundw
      case rel =>
        obtain ⟨r2, hp2⟩ := unhide H1
        refine ⟨k + 1, r2, by omega, by go_num, ?_⟩
        rw [byte_at, List.append_assoc, ← fixB_take v n k hlt] at hp2
        exact (unhide H).trans hp2
      case measure => simp [intOf]; omega
    · have H := hide hp
      clear hp
      go_wp2
      go_returns
      have hkn : k = n := by omega
      subst hkn
      have hp := unhide H
      rw [List.take_of_length_le (by rw [fixB_length]; exact Nat.le_refl _)] at hp
      exact ⟨rfl, r1, hp⟩
/-- a number to the base 128, the lowest digit first -/
def uintB : Nat → Nat → List UInt8
  | 0, v => [UInt8.ofNat v]
  | f + 1, v => if v < 128 then [UInt8.ofNat v] else UInt8.ofNat (v % 128 + 128) :: uintB f (v / 128)
theorem uintB_length (f v : Nat) : 1 ≤ (uintB f v).length ∧ (uintB f v).length ≤ f + 1 := by
  induction f generalizing v with
  | zero => simp [uintB]
  | succ f ih =>
    rw [uintB]
    split
    · simp
    · have := ih (v / 128); simp; omega
theorem or128 (u : Nat) : bits .or .u8 ((u : Int) % 256) 128 = ((u % 128 + 128 : Nat) : Int) := by
  rw [u8_or _ _ (by omega) (by omega) (by omega) (by omega)]
  have e1 : ((u : Int) % 256).toNat = u % 256 := by omega
  rw [e1]
  have e2 : (128 : Int).toNat = 128 := rfl
  rw [e2]
  congr 1
  have h : ∀ x : Fin 256, x.1 ||| 128 = x.1 % 128 + 128 := by decide +kernel
  have := h ⟨u % 256, Nat.mod_lt _ (by decide)⟩
  simp only at this
  rw [this]; omega
theorem or128_rng (u : Nat) : 0 ≤ bits .or .u8 ((u : Int) % 256) 128 ∧ bits .or .u8 ((u : Int) % 256) 128 < 256 := by rw [or128]; omega
set_option maxRecDepth 100000 in
set_option maxHeartbeats 400000 in
theorem wUint (a r : Nat) (bs : List UInt8) (v : Nat) (w : World) (h : Wr w a r bs) (hv : v < 18446744073709551616) (hl : bs.length + 10 ≤ 140737488355328) :
    Calls Try.prog 31 #[.pointer (some ⟨a, 0, none⟩), .int .u64 v] w fun e w' => e = .returned (.tuple #[]) ∧ ∃ r', Put w w' a r r' (bs ++ uintB 9 v) := by
  go_enter Try.func31, Try.ntmps31
  go_wp2
  go_loopw [1] (fun x wr => ∃ u f r' : Nat, ∃ acc : List UInt8, u < 18446744073709551616 ∧ x = .int .u64 u ∧ acc.length ≤ 9 ∧ Hid (Put w wr a r r' (bs ++ acc)) ∧ Hid (u < 128 ^ (f + 1) ∧ acc.length + f = 9 ∧ acc ++ uintB f u = uintB 9 v)) (fun x _ => (intOf x).toNat)
  case atStart => exact ⟨v, 9, r, [], hv, rfl, by simp, hide (by simpa using Put.refl h), hide ⟨by omega, by simp, rfl⟩⟩
  case round =>
    obtain ⟨u, f, r1, acc, hu, rfl, hacc, HP, H⟩ := hrel
    by_cases hlt : u < 128
    · go_wp2_with fail
      refine (wByte a r1 (bs ++ acc) (u : Int) _ (unhide HP).1 (by omega) (by omega) ?_).mono ?_
      · rw [List.length_append]; omega
      rintro e w1 ⟨rfl, hp1⟩
      have H1 := hide hp1
      clear hp1
      go_wp2
      go_returns
      obtain ⟨k1, k2, k3⟩ := unhide H
      obtain ⟨r2, hp2⟩ := unhide H1
      have e1 : UInt8.ofNat ((u : Int)).toNat = UInt8.ofNat u := rfl
      have e2 : uintB f u = [UInt8.ofNat u] := by cases f <;> simp [uintB, hlt]
      rw [e1, List.append_assoc, ← e2, k3] at hp2
      exact ⟨rfl, r2, (unhide HP).trans hp2⟩
    · go_wp2_with fail
      refine (wByte a r1 (bs ++ acc) _ _ (unhide HP).1 (or128_rng u).1 (or128_rng u).2 ?_).mono ?_
      · rw [List.length_append]; omega
      rintro e w1 ⟨rfl, hp1⟩
      have H1 := hide hp1
      clear hp1
      go_wp2
      go_roundw
      case rel =>
        obtain ⟨k1, k2, k3⟩ := unhide H
        obtain ⟨r2, hp2⟩ := unhide H1
        match f, k1, k2, k3 with
        | 0, k1, _, _ => exact absurd k1 (by omega)
        | f + 1, k1, k2, k3 =>
        rw [uintB, if_neg hlt] at k3
        have e1 : UInt8.ofNat (bits .or .u8 ((u : Int) % 256) 128).toNat = UInt8.ofNat (u % 128 + 128) := by rw [or128]; rfl
        rw [e1, List.append_assoc] at hp2
        refine ⟨u / 128, f, r2, acc ++ [UInt8.ofNat (u % 128 + 128)], by omega, by go_num, by simp; omega, hide ((unhide HP).trans hp2), hide ⟨?_, by simp; omega, by simpa using k3⟩⟩
        rw [Nat.pow_succ] at k1
        omega
      case measure => simp [intOf]; omega

theorem wLowestI (a r : Nat) (bs : List UInt8) (x : Int) (n : Int) (w : World) (h : Wr w a r bs) (hx : 0 ≤ x) (h0 : 0 ≤ n) (hn : n ≤ 8) (hl : bs.length + 8 ≤ 140737488355328) :
    Calls Try.prog 58 #[.pointer (some ⟨a, 0, none⟩), .int .u64 x, .int .i64 n] w fun e w' => e = .returned (.tuple #[]) ∧ ∃ r', Put w w' a r r' (bs ++ fixB x.toNat n.toNat) := by
  obtain ⟨X, rfl⟩ := Int.eq_ofNat_of_zero_le hx
  obtain ⟨m, rfl⟩ := Int.eq_ofNat_of_zero_le h0
  exact wLowest a r bs X m w h (by omega) hl
theorem wSmall (a r : Nat) (bs : List UInt8) (v : Int) (w : World) (h : Wr w a r bs) (h0 : -32768 ≤ v) (h1 : v < 32768) (hl : bs.length + 8 ≤ 140737488355328) :
    Calls Try.prog 29 #[.pointer (some ⟨a, 0, none⟩), .int .i16 v] w fun e w' => e = .returned (.tuple #[]) ∧ ∃ r', Put w w' a r r' (bs ++ fixB (v % 65536).toNat 2) := by
  have H := hide h
  clear h
  go_enter Try.func29, Try.ntmps29
  go_wp2_with fail
  refine (wLowestI a r bs _ _ _ (unhide H) (by rw [IntKind.wrap_u64]; omega) (by omega) (by omega) hl).mono ?_
  rintro e w1 ⟨rfl, hp⟩
  have H1 := hide hp
  clear hp
  go_wp2
  go_returns
  have hp := unhide H1
  rw [← fixB_mod, IntKind.wrap_u64] at hp
  have e : (v % 18446744073709551616).toNat % 256 ^ (2 : Int).toNat = (v % 65536).toNat := by
    show (v % 18446744073709551616).toNat % 65536 = _
    omega
  rw [e] at hp
  exact ⟨rfl, hp⟩
theorem wUintI (a r : Nat) (bs : List UInt8) (x : Int) (w : World) (h : Wr w a r bs) (h0 : 0 ≤ x) (h1 : x < 18446744073709551616) (hl : bs.length + 10 ≤ 140737488355328) :
    Calls Try.prog 31 #[.pointer (some ⟨a, 0, none⟩), .int .u64 x] w fun e w' => e = .returned (.tuple #[]) ∧ ∃ r', Put w w' a r r' (bs ++ uintB 9 x.toNat) := by
  obtain ⟨X, rfl⟩ := Int.eq_ofNat_of_zero_le h0
  exact wUint a r bs X w h (by omega) hl
theorem not64 (x : Int) (h0 : 0 ≤ x) (h1 : x < 18446744073709551616) : bits .xor .u64 IntKind.u64.max x = 18446744073709551615 - x := by
  obtain ⟨a, rfl⟩ := Int.eq_ofNat_of_zero_le h0
  show IntKind.u64.wrap ((BitVec.ofInt 64 18446744073709551615 ^^^ BitVec.ofInt 64 (a : Int)).toNat : Int) = _
  have h2 : BitVec.ofInt 64 18446744073709551615 = BitVec.allOnes 64 := by decide
  rw [h2, BitVec.allOnes_xor, BitVec.toNat_not, ofInt_u64 a (by omega), IntKind.wrap_u64]
  omega
/-- a number with a sign as one without -/
def zig (v : Int) : Nat := if 0 ≤ v then (2 * v).toNat else (-2 * v - 1).toNat
theorem wInt (a r : Nat) (bs : List UInt8) (v : Int) (w : World) (h : Wr w a r bs) (h0 : -9223372036854775808 ≤ v) (h1 : v < 9223372036854775808) (hl : bs.length + 10 ≤ 140737488355328) :
    Calls Try.prog 32 #[.pointer (some ⟨a, 0, none⟩), .int .i64 v] w fun e w' => e = .returned (.tuple #[]) ∧ ∃ r', Put w w' a r r' (bs ++ uintB 9 (zig v)) := by
  have H := hide h
  clear h
  by_cases hs : 0 ≤ v
  · have hz : (v * 2).toNat = zig v := by unfold zig; rw [if_pos hs, Int.mul_comm]
    have HZ := hide hz
    clear hz
    go_enter Try.func32, Try.ntmps32
    go_wp2_with fail
    refine (wUintI a r bs _ _ (unhide H) (by omega) (by omega) hl).mono ?_
    rintro e w1 ⟨rfl, hp⟩
    rw [unhide HZ] at hp
    have H1 := hide hp
    clear hp
    go_wp2
    go_returns
    exact ⟨rfl, unhide H1⟩
  · have hx : bits .xor .u64 IntKind.u64.max (IntKind.u64.wrap (IntKind.u64.wrap v * 2)) = -2 * v - 1 := by
      rw [not64 _ (by rw [IntKind.wrap_u64]; omega) (by rw [IntKind.wrap_u64]; omega), IntKind.wrap_u64, IntKind.wrap_u64]
      omega
    have hz : (-2 * v - 1).toNat = zig v := by unfold zig; rw [if_neg hs]
    have HX := hide hx
    have HZ := hide hz
    clear hx hz
    have h2 : v < 0 := by omega
    clear hs
    go_enter Try.func32, Try.ntmps32
    go_wp2_with fail
    rw [unhide HX]
    refine (wUintI a r bs _ _ (unhide H) (by omega) (by omega) hl).mono ?_
    rintro e w1 ⟨rfl, hp⟩
    rw [unhide HZ] at hp
    have H1 := hide hp
    clear hp
    go_wp2
    go_returns
    exact ⟨rfl, unhide H1⟩
theorem pow8 (m : Nat) : ((2 : Int) ^ (8 * m)) = ((256 ^ m : Nat) : Int) := by
  have e : (256 : Nat) ^ m = 2 ^ (8 * m) := (Nat.pow_mul 2 8 m).symm
  rw [e]; simp
theorem wFixed (a r : Nat) (bs : List UInt8) (v : Nat) (n : Int) (w : World) (h : Wr w a r bs) (hn0 : 1 ≤ n) (hn1 : n ≤ 8) (hv : v < 256 ^ n.toNat) (hl : bs.length + 8 ≤ 140737488355328) :
    Calls Try.prog 30 #[.pointer (some ⟨a, 0, none⟩), .int .u64 v, .int .i64 n] w fun e w' => e = .returned (.int .i64 0) ∧ ∃ r', Put w w' a r r' (bs ++ fixB v n.toNat) := by
  have H := hide h
  clear h
  obtain ⟨m, rfl⟩ := Int.eq_ofNat_of_zero_le (by omega : 0 ≤ n)
  have hz' : ((v : Int) / 2 ^ (8 * m) != 0) = false := by
    have hz : (v : Int) / 2 ^ (8 * m) = 0 := by
      rw [pow8, ← Int.natCast_ediv, Nat.div_eq_of_lt (by simpa using hv)]; rfl
    rw [hz]; rfl
  clear hv
  go_enter Try.func30, Try.ntmps30
  go_wp2_with fail
  refine (wLowestI a r bs _ _ _ (unhide H) (by omega) (by omega) (by omega) hl).mono ?_
  rintro e w1 ⟨rfl, hp⟩
  have H1 := hide hp
  clear hp
  go_wp2
  go_ret
  exact ⟨rfl, unhide H1⟩
theorem wFixedBig (a : Nat) (v : Nat) (n : Int) (w : World) (hn0 : 1 ≤ n) (hn1 : n ≤ 8) (hv : 256 ^ n.toNat ≤ v) :
    Calls Try.prog 30 #[.pointer (some ⟨a, 0, none⟩), .int .u64 v, .int .i64 n] w fun e w' => e = .returned (.int .i64 1) ∧ w' = w := by
  obtain ⟨m, rfl⟩ := Int.eq_ofNat_of_zero_le (by omega : 0 ≤ n)
  have hz' : ((v : Int) / 2 ^ (8 * m) != 0) = true := by
    rw [pow8, ← Int.natCast_ediv]
    have h0 : 0 < v / 256 ^ m := Nat.div_pos (by simpa using hv) (Nat.pow_pos (by decide))
    generalize v / 256 ^ m = q at h0
    rw [bne_iff_ne]; omega
  clear hv
  go_enter Try.func30, Try.ntmps30
  go_wp2
  go_ret
  exact ⟨rfl, rfl⟩
theorem wFixedBad (a : Nat) (v : Int) (n : Int) (w : World) (hn : n < 1 ∨ 8 < n) :
    Calls Try.prog 30 #[.pointer (some ⟨a, 0, none⟩), .int .u64 v, .int .i64 n] w fun e w' => e = .returned (.int .i64 1) ∧ w' = w := by
  rcases hn with hn | hn
  · go_enter Try.func30, Try.ntmps30
    go_wp2
    go_ret
    exact ⟨rfl, rfl⟩
  · have h1 : ¬ n < 1 := by omega
    go_enter Try.func30, Try.ntmps30
    go_wp2
    go_ret
    exact ⟨rfl, rfl⟩
/-- a float's bits as they are written -/
def fltB (b : Nat) : Nat := if isNan b = true then 9221120237041090560 else b
theorem wFloat (a r : Nat) (bs : List UInt8) (b : Nat) (w : World) (h : Wr w a r bs) (hl : bs.length + 8 ≤ 140737488355328) :
    Calls Try.prog 33 #[.pointer (some ⟨a, 0, none⟩), .float .f64 b] w fun e w' => e = .returned (.tuple #[]) ∧ ∃ r', Put w w' a r r' (bs ++ fixB (fltB b) 8) := by
  have H := hide h
  clear h
  by_cases hb : isNan b = true
  · have hz : fltB b = 9221120237041090560 := if_pos hb
    have HZ := hide hz
    clear hz
    go_enter Try.func33, Try.ntmps33
    go_wp2_with (go_at_call 40; refine (cNan _ _).mono ?_; rintro e w' ⟨rfl, rfl⟩)
    refine (wLowestI a r bs _ _ _ (unhide H) (by omega) (by omega) (by omega) hl).mono ?_
    rintro e w1 ⟨rfl, hp⟩
    have H1 := hide hp
    clear hp
    go_wp2
    go_returns
    rw [unhide HZ]
    exact ⟨rfl, unhide H1⟩
  · have hz : fltB b = b := if_neg hb
    have HZ := hide hz
    clear hz
    have hb' : isNan b = false := by simpa using hb
    clear hb
    go_enter Try.func33, Try.ntmps33
    go_wp2_with (go_at_call 40; refine (cNan _ _).mono ?_; rintro e w' ⟨rfl, rfl⟩)
    refine (wLowestI a r bs _ _ _ (unhide H) (by omega) (by omega) (by omega) hl).mono ?_
    rintro e w1 ⟨rfl, hp⟩
    have H1 := hide hp
    clear hp
    go_wp2
    go_returns
    rw [unhide HZ]
    exact ⟨rfl, unhide H1⟩
theorem wText (a r : Nat) (bs : List UInt8) (s : ByteArray) (w : World) (h : Wr w a r bs) (hl : bs.length + s.size + 10 ≤ 140737488355328) :
    Calls Try.prog 35 #[.pointer (some ⟨a, 0, none⟩), .string s] w fun e w' => e = .returned (.tuple #[]) ∧ ∃ r', Put w w' a r r' (bs ++ (uintB 9 s.size ++ s.data.toList)) := by
  have H := hide h
  clear h
  go_enter Try.func35, Try.ntmps35
  go_wp2_with fail
  refine (wUintI a r bs _ _ (unhide H) (by omega) (by omega) (by omega)).mono ?_
  rintro e w1 ⟨rfl, hp⟩
  obtain ⟨r1, hp⟩ := hp
  have H1 := hide hp
  clear hp
  go_wp2_with fail
  refine (wRaw a r1 _ s _ (unhide H1).1 ?_).mono ?_
  · have := (uintB_length 9 (s.size : Int).toNat).2; rw [List.length_append]; omega
  rintro e w2 ⟨rfl, hp⟩
  have H2 := hide hp
  clear hp
  go_wp2
  go_returns
  obtain ⟨r2, hp⟩ := unhide H2
  rw [List.append_assoc] at hp
  exact ⟨rfl, r2, (unhide H1).trans hp⟩
theorem wLen (a r : Nat) (bs : List UInt8) (w : World) (h : Wr w a r bs) :
    Calls Try.prog 7 #[.pointer (some ⟨a, 0, none⟩)] w fun e w' => e = .returned (.int .i64 bs.length) ∧ w' = w := by
  obtain ⟨x, hc, hf, hown, ao, cap, rfl⟩ := h.cellAt
  go_enter Try.func7, Try.ntmps7
  go_wp2
  go_ret
  exact ⟨rfl, rfl⟩
theorem told_run {w : World} {a r : Nat} {bs : List UInt8} (h : Wr w a r bs) {ao : Option Addr} {cap : Nat} (hc : w.cell? ⟨a, 0, none⟩ = some (.slice ao bs.length cap)) :
    (convert 68 9 (.slice ao bs.length cap)).run Try.prog w = .ok (.string ⟨bs.toArray⟩) w := by
  obtain ⟨h1, h2, h3, v0, h4, h5, h6, h7⟩ := h
  obtain rfl : v0 = .slice ao bs.length cap := by rw [h4] at hc; exact Option.some.inj hc
  rcases h6.2 with ⟨e, hn⟩ | ⟨g, cap', cur, e, _⟩
  · have hb : bs = [] := List.eq_nil_of_length_eq_zero hn
    subst hb
    cases e
    exact run_convert_bytes_nil w 68 5 Try.underlying68 Try.underlying5 _ _ 9 Try.underlying9
  · cases e
    refine run_convert_bytes_back w 68 9 5 ⟨g, 0, none⟩ cap bs Try.underlying68 Try.underlying5 Try.underlying9 fun j hj => ?_
    refine h6.cells rfl j _ ?_
    simp [Bs, hj]
theorem wTold (a r : Nat) (bs : List UInt8) (w : World) (h : Wr w a r bs) :
    Calls Try.prog 8 #[.pointer (some ⟨a, 0, none⟩)] w fun e w' => e = .returned (.string ⟨bs.toArray⟩) ∧ w' = w := by
  obtain ⟨x, hc, hf, hown, ao, cap, rfl⟩ := h.cellAt
  have hrun := told_run h hc
  go_enter Try.func8, Try.ntmps8
  go_wp2
  go_ret
  exact ⟨rfl, rfl⟩
theorem wNew (w : World) :
    Calls Try.prog 23 #[] w fun e w' => e = .returned (.pointer (some ⟨w.heap.size, 0, none⟩)) ∧ w' = w.alloc (.cells #[.slice none 0 0] 70) := by
  go_enter Try.func23, Try.ntmps23
  go_wp2
  go_ret
  exact ⟨rfl, rfl⟩
theorem Wr.new (w : World) (t : TypeId) : Wr (w.alloc (.cells #[.slice none 0 0] t)) w.heap.size w.heap.size [] := by
  refine ⟨by simp, by simp, by simp, .slice none 0 0, ?_, ?_, World.ownsRow_nil _ _ _ _, .inl rfl⟩
  · simp [go_sem]
  · rw [frozen?_alloc_cells]; simp [World.frozen?]
end Go.Proofs.Ytpjepndeppckdaa
