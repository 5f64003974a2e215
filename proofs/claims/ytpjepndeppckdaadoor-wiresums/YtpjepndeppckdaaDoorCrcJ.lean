/- Products of registers, and joined sums. -/
import Derived.Test.YtpjepndeppckdaaDoorCrcC
namespace Go.Proofs.YtpjepndeppckdaaDoor
open Go.RowKit Crc

/-- the product as the text goes: the highest bit of b first, b moved up -/
def pr' : Nat → Nat → Nat → Nat
  | 0, _, _ => 0
  | n + 1, a, b => (if 2147483648 ≤ b then a else 0) ^^^ pr' n (st a) (b * 2 % 4294967296)
theorem pr'_eq (n a b : Nat) (hn : n ≤ 32) : pr' n a (b * 2 ^ (32 - n) % 4294967296) = pr n a b := by
  induction n generalizing a with
  | zero => rfl
  | succ n ih =>
    rw [pr', pr]
    have hp : 2 ^ (32 - n) = 2 ^ (32 - (n + 1)) * 2 := by rw [← Nat.pow_succ]; congr 1; omega
    have e1 : b * 2 ^ (32 - (n + 1)) % 4294967296 * 2 % 4294967296 = b * 2 ^ (32 - n) % 4294967296 := by
      rw [hp, Nat.mod_mul_mod, Nat.mul_assoc]
    rw [e1, ih (st a) (by omega)]
    congr 1
    have e2 : b * 2 ^ (32 - (n + 1)) % 4294967296 = 2 ^ (31 - n) * (b % 2 ^ (n + 1)) := by
      have h32 : 4294967296 = 2 ^ (31 - n) * 2 ^ (n + 1) := by rw [← Nat.pow_add, show 31 - n + (n + 1) = 32 from by omega]
      rw [show 32 - (n + 1) = 31 - n from by omega, h32, Nat.mul_comm b, Nat.mul_mod_mul_left]
    rw [e2]
    have e3 : b % 2 ^ (n + 1) = 2 ^ n * (b / 2 ^ n % 2) + b % 2 ^ n := by
      rw [Nat.pow_succ, Nat.mod_mul]; omega
    have hlt : b % 2 ^ n < 2 ^ n := Nat.mod_lt _ (Nat.two_pow_pos n)
    have hpp : 2 ^ (31 - n) * 2 ^ n = 2147483648 := by rw [← Nat.pow_add, show 31 - n + n = 31 from by omega]
    have hq : 0 < 2 ^ (31 - n) := Nat.two_pow_pos _
    rw [Nat.testBit_eq_decide_div_mod_eq]
    rcases Nat.mod_two_eq_zero_or_one (b / 2 ^ n) with h | h
    · rw [h] at e3
      rw [if_neg, h]
      · simp
      · rw [e3]
        have : 2 ^ (31 - n) * (2 ^ n * 0 + b % 2 ^ n) < 2 ^ (31 - n) * 2 ^ n := Nat.mul_lt_mul_of_pos_left (by omega) hq
        omega
    · rw [h] at e3
      rw [if_pos, h]
      · simp
      · rw [e3]
        have : 2 ^ (31 - n) * 2 ^ n ≤ 2 ^ (31 - n) * (2 ^ n * 1 + b % 2 ^ n) := Nat.mul_le_mul_left _ (by omega)
        omega
theorem pr'_pd (a b : Nat) (hb : b < 4294967296) : pr' 32 a b = pd a b := by
  have h := pr'_eq 32 a b (by omega)
  rw [show 32 - 32 = 0 from rfl, Nat.pow_zero, Nat.mul_one, Nat.mod_eq_of_lt hb] at h
  exact h
theorem pr'_zero (n a : Nat) : pr' n a 0 = 0 := by
  induction n generalizing a with
  | zero => rfl
  | succ n ih => rw [pr', if_neg (by decide), show 0 * 2 % 4294967296 = 0 from rfl, ih]; rfl
theorem andTop (b : Nat) (hb : b < 4294967296) : bits .and .u32 (b : Int) 2147483648 = ((b / 2147483648 * 2147483648 : Nat) : Int) := by
  have h := u32_and_nat b 2147483648 hb (by decide)
  rw [show ((2147483648 : Nat) : Int) = 2147483648 from rfl] at h
  rw [h, show 2147483648 = 2 ^ 31 from rfl]
  congr 1
  apply Nat.eq_of_testBit_eq
  intro i
  rw [Nat.testBit_and, Nat.testBit_two_pow, Nat.testBit_mul_two_pow, Nat.testBit_div_two_pow]
  by_cases hi : 31 = i
  · subst hi; simp
  · by_cases h31 : 31 ≤ i
    · have : b.testBit i = false := Nat.testBit_lt_two_pow (Nat.lt_of_lt_of_le hb (Nat.pow_le_pow_right (n := 2) (by decide) (show 32 ≤ i by omega)))
      simp [hi, h31, this]
    · simp [hi, h31]
set_option maxHeartbeats 400000 in
theorem cProduct (a b : Nat) (w : World) (ha : a < 4294967296) (hb : b < 4294967296) :
    Calls Tryd.prog 34 #[.int .u32 a, .int .u32 b] w fun e w' => e = .returned (.int .u32 (pd a b : Nat)) ∧ w' = w := by
  go_enter Tryd.func34, Tryd.ntmps34
  go_wp2
  go_loopg [0, 1, 5] 32 (fun g x y z wr => ∃ A B p : Nat, g ≤ 32 ∧ x = .int .u32 A ∧ y = .int .u32 B ∧ z = .int .u32 p ∧ A < 4294967296 ∧ B < 4294967296 ∧ p < 4294967296 ∧ wr = w ∧ Hid (p ^^^ pr' g A B = pd a b ∧ ∃ m, B = 2 ^ (32 - g) * m))
  case atStart => exact ⟨a, b, 0, by omega, rfl, rfl, rfl, ha, hb, by omega, rfl, by rw [Nat.zero_xor]; exact pr'_pd a b hb, b, by simp⟩
  case round =>
    obtain ⟨A, B, p, hg, rfl, rfl, rfl, hA, hB, hp, rfl, HI⟩ := hrel
    by_cases hz : B = 0
    · subst hz
      go_wp2
      go_ret
      have h := (unhide HI).1
      rw [pr'_zero, Nat.xor_zero] at h
      rw [h]
      exact ⟨rfl, rfl⟩
    · have hz' : ((B : Int) != 0) = true := by rw [bne_iff_ne]; omega
      obtain ⟨g', hg'⟩ : ∃ g', gk = g' + 1 := by
        obtain ⟨_, m, hm⟩ := unhide HI
        refine ⟨gk - 1, ?_⟩
        by_cases h0 : gk = 0
        · subst h0
          exfalso
          rw [show 2 ^ (32 - 0) = 4294967296 from rfl] at hm
          omega
        · omega
      have HG := hide hg'
      have hgl : g' < gk := by omega
      clear hg'
      have hdiv : Hid (∃ m, B * 2 % 4294967296 = 2 ^ (32 - g') * m) := by
        obtain ⟨_, m, hm⟩ := unhide HI
        have hgk := unhide HG
        refine ⟨m % 2 ^ g', ?_⟩
        have h32 : 4294967296 = 2 ^ (32 - g') * 2 ^ g' := by rw [← Nat.pow_add, show 32 - g' + g' = 32 from by omega]
        have h2 : B * 2 = 2 ^ (32 - g') * m := by
          rw [hm, Nat.mul_right_comm, ← Nat.pow_succ]; congr 2; omega
        rw [h2, h32, Nat.mul_mod_mul_left]
      have hl := st_lt A hA
      have ht := andTop B hB
      have he : ((B : Int) * 2 % 4294967296) = ((B * 2 % 4294967296 : Nat) : Int) := by omega
      have hB2 : B * 2 % 4294967296 < 4294967296 := by omega
      by_cases htop : 2147483648 ≤ B
      · have hb1 : (bits .and .u32 (B : Int) 2147483648 != 0) = true := by rw [ht, bne_iff_ne]; omega
        have hx := x32 p A hp hA
        have hxl : p ^^^ A < 4294967296 := Nat.xor_lt_two_pow (n := 32) hp hA
        have hI : Hid ((p ^^^ A) ^^^ pr' g' (st A) (B * 2 % 4294967296) = pd a b) := by
          have h := (unhide HI).1
          rw [unhide HG, pr', if_pos htop, ← Nat.xor_assoc] at h
          exact h
        clear ht HI htop
        generalize B * 2 % 4294967296 = B' at *
        generalize p ^^^ A = p' at *
        go_wp2_with fail
        refine (cOne A _ hA).mono ?_
        rintro e w1 ⟨rfl, rfl⟩
        go_wp2
        go_roundg g'
        case measure => exact hgl
        case rel => exact ⟨st A, B', p', by omega, rfl, rfl, rfl, hl, hB2, hxl, rfl, unhide hI, unhide hdiv⟩
      · have hb1 : (bits .and .u32 (B : Int) 2147483648 != 0) = false := by rw [ht, show B / 2147483648 = 0 from by omega]; rfl
        have hI : Hid (p ^^^ pr' g' (st A) (B * 2 % 4294967296) = pd a b) := by
          have h := (unhide HI).1
          rw [unhide HG, pr', if_neg htop, Nat.zero_xor] at h
          exact h
        clear ht HI htop
        generalize B * 2 % 4294967296 = B' at *
        go_wp2_with fail
        refine (cOne A _ hA).mono ?_
        rintro e w1 ⟨rfl, rfl⟩
        go_wp2
        go_roundg g'
        case measure => exact hgl
        case rel => exact ⟨st A, B', p, by omega, rfl, rfl, rfl, hl, hB2, hp, rfl, unhide hI, unhide hdiv⟩

theorem and1_i64 (n : Nat) (hn : n < 9223372036854775808) : bits .and .i64 (n : Int) 1 = ((n % 2 : Nat) : Int) := by
  show IntKind.i64.wrap ((BitVec.ofInt 64 (n : Int) &&& BitVec.ofInt 64 1).toNat : Int) = _
  have h1 : (BitVec.ofInt 64 1).toNat = 1 := by decide
  rw [BitVec.toNat_and, ofInt_u64 n (by omega), h1, Nat.and_one_is_mod, IntKind.wrap_i64]
  omega
theorem pn_odd (M A q : Nat) (hA : A < 2 ^ 32) (hq : q < 2 ^ 32) (h2 : M % 2 = 1) : pn (M / 2) (pd A q) (pd q q) = pn M A q := by
  have e : M = 2 * (M / 2) + 1 := by omega
  rw [← pn_two _ _ _ (pd_lt A q hA) hq]
  conv => rhs; rw [e]
  rfl
theorem pn_even (M A q : Nat) (hA : A < 2 ^ 32) (hq : q < 2 ^ 32) (h2 : ¬ M % 2 = 1) : pn (M / 2) A (pd q q) = pn M A q := by
  rw [← pn_two _ _ _ hA hq, show 2 * (M / 2) = M from by omega]
/-- what Joined answers -/
def joinS (a b : Nat) (n : Int) : Nat := pn n.toNat a (2 ^ 23) ^^^ b
set_option maxHeartbeats 400000 in
theorem cJoined (a b : Nat) (n : Int) (w : World) (ha : a < 4294967296) (hb : b < 4294967296) (hn : n < 9223372036854775808) :
    Calls Tryd.prog 14 #[.int .u32 a, .int .u32 b, .int .i64 n] w fun e w' => e = .returned (.int .u32 (joinS a b n : Nat)) ∧ w' = w := by
  by_cases h0 : 0 < n
  · obtain ⟨N, rfl⟩ := Int.eq_ofNat_of_zero_le (by omega : 0 ≤ n)
    unfold joinS
    rw [Int.toNat_natCast]
    go_enter Tryd.func14, Tryd.ntmps14
    go_wp2
    go_loop [0, 2, 7] (fun x y z => ∃ A M q : Nat, x = .int .u32 A ∧ y = .int .i64 M ∧ z = .int .u32 q ∧ A < 4294967296 ∧ q < 4294967296 ∧ M < 9223372036854775808 ∧ Hid (pn M A q = pn N a (2 ^ 23))) (fun _ y _ => (intOf y).toNat)
    case atStart => exact ⟨a, N, 8388608, rfl, rfl, rfl, ha, by decide, by omega, rfl⟩
    case round =>
      obtain ⟨A, M, q, rfl, rfl, rfl, hA, hq, hM, HI⟩ := hrel
      by_cases hz : 0 < M
      · have h1 := and1_i64 M hM
        have hql := pd_lt q q hq
        by_cases h2 : M % 2 = 1
        · have hb1 : (bits .and .i64 (M : Int) 1 != 0) = true := by rw [h1, h2]; rfl
          have hI : Hid (pn (M / 2) (pd A q) (pd q q) = pn N a (2 ^ 23)) := hide ((pn_odd M A q hA hq h2).trans (unhide HI))
          clear h1 HI h2
          go_wp2_with fail
          refine (cProduct A q _ hA hq).mono ?_
          rintro e w1 ⟨rfl, rfl⟩
          go_wp2_with fail
          refine (cProduct q q _ hq hq).mono ?_
          rintro e w1 ⟨rfl, rfl⟩
          go_wp2
          go_round
          case rel => exact ⟨pd A q, M / 2, pd q q, rfl, by go_num, rfl, pd_lt A q hA, hql, by omega, hI⟩
          case measure => simp [intOf]; omega
        · have hb1 : (bits .and .i64 (M : Int) 1 != 0) = false := by rw [h1, show M % 2 = 0 from by omega]; rfl
          have hI : Hid (pn (M / 2) A (pd q q) = pn N a (2 ^ 23)) := hide ((pn_even M A q hA hq h2).trans (unhide HI))
          clear h1 HI h2
          go_wp2_with fail
          refine (cProduct q q _ hq hq).mono ?_
          rintro e w1 ⟨rfl, rfl⟩
          go_wp2
          go_round
          case rel => exact ⟨A, M / 2, pd q q, rfl, by go_num, rfl, hA, hql, by omega, hI⟩
          case measure => simp [intOf]; omega
      · have hx := x32 A b hA hb
        go_wp2
        go_ret
        have h := unhide HI
        rw [show M = 0 from by omega] at h
        rw [← h]
        exact ⟨rfl, rfl⟩
  · have hx := x32 a b ha hb
    have hj : joinS a b n = a ^^^ b := by
      unfold joinS
      rw [show n.toNat = 0 from by omega]; rfl
    rw [hj]
    clear hj
    go_enter Tryd.func14, Tryd.ntmps14
    go_wp2
    go_rounds 1
    go_ret
    exact ⟨rfl, rfl⟩
end Go.Proofs.YtpjepndeppckdaaDoor
