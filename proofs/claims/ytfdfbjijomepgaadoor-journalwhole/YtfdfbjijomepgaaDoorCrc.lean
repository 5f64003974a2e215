/- The check sum's arithmetic: registers, steps, products, powers. Of no program. -/
namespace Go.Proofs.YtfdfbjijomepgaaDoor.Crc

/-- the polynomial of the check sum, its bits turned round -/
def P : Nat := 0x82F63B78
/-- one step of the register -/
def st (r : Nat) : Nat := (r >>> 1) ^^^ (if r % 2 = 1 then P else 0)
def stn : Nat → Nat → Nat
  | 0, r => r
  | n + 1, r => stn n (st r)

theorem xor_mod2 (a b : Nat) : (a ^^^ b) % 2 = (a % 2 + b % 2) % 2 := by
  have h := Nat.testBit_xor (x := a) (y := b) (i := 0)
  simp only [Nat.testBit_zero] at h
  rcases Nat.mod_two_eq_zero_or_one a with ha | ha <;> rcases Nat.mod_two_eq_zero_or_one b with hb | hb <;>
    rcases Nat.mod_two_eq_zero_or_one (a ^^^ b) with hc | hc <;> simp [ha, hb, hc] at h ⊢

theorem xor4 (a b c d : Nat) : (a ^^^ b) ^^^ (c ^^^ d) = (a ^^^ c) ^^^ (b ^^^ d) := by
  rw [Nat.xor_assoc, Nat.xor_assoc, ← Nat.xor_assoc b, Nat.xor_comm b c, Nat.xor_assoc c]

theorem st_xor (a b : Nat) : st (a ^^^ b) = st a ^^^ st b := by
  unfold st
  rw [Nat.shiftRight_xor_distrib, xor4, xor_mod2]
  rcases Nat.mod_two_eq_zero_or_one a with ha | ha <;> rcases Nat.mod_two_eq_zero_or_one b with hb | hb <;> simp [ha, hb]

theorem st_zero : st 0 = 0 := by decide
theorem stn_zero (n : Nat) : stn n 0 = 0 := by
  induction n with
  | zero => rfl
  | succ n ih => rw [stn, st_zero, ih]
theorem stn_xor (n a b : Nat) : stn n (a ^^^ b) = stn n a ^^^ stn n b := by
  induction n generalizing a b with
  | zero => rfl
  | succ n ih => rw [stn, stn, stn, st_xor, ih]
theorem stn_add (m n a : Nat) : stn (m + n) a = stn n (stn m a) := by
  induction m generalizing a with
  | zero => simp [stn]
  | succ m ih => rw [Nat.succ_add, stn, stn, ih]
theorem stn_succ' (n a : Nat) : stn (n + 1) a = st (stn n a) := by rw [stn_add]; rfl

theorem P_lt : P < 2 ^ 32 := by decide
theorem st_lt (r : Nat) (h : r < 2 ^ 32) : st r < 2 ^ 32 := by
  unfold st
  apply Nat.xor_lt_two_pow
  · rw [Nat.shiftRight_eq_div_pow]; omega
  · split
    · exact P_lt
    · decide
theorem stn_lt (n r : Nat) (h : r < 2 ^ 32) : stn n r < 2 ^ 32 := by
  induction n generalizing r with
  | zero => exact h
  | succ n ih => exact ih _ (st_lt r h)

/-- low bits that are noughts go out without a trace -/
theorem stn_mul (n x : Nat) : stn n (x * 2 ^ n) = x := by
  induction n generalizing x with
  | zero => simp [stn]
  | succ n ih =>
    rw [stn]
    have h : st (x * 2 ^ (n + 1)) = x * 2 ^ n := by
      unfold st
      have e : x * 2 ^ (n + 1) = (x * 2 ^ n) * 2 := by rw [Nat.pow_succ, Nat.mul_assoc]
      rw [e, Nat.shiftRight_eq_div_pow]
      have h2 : (x * 2 ^ n * 2) % 2 = 0 := by omega
      simp [h2]
    rw [h, ih]

theorem eq_of_xor (a b : Nat) (h : a ^^^ b = 0) : a = b := by
  have e : a ^^^ b ^^^ b = b := by rw [h, Nat.zero_xor]
  rwa [Nat.xor_assoc, Nat.xor_self, Nat.xor_zero] at e
/-- a register that is not nought stays so -/
theorem st_ne (r : Nat) (h : r < 2 ^ 32) (h0 : r ≠ 0) : st r ≠ 0 := by
  intro e
  unfold st at e
  have e' := eq_of_xor _ _ e
  rw [Nat.shiftRight_eq_div_pow] at e'
  unfold P at e'
  split at e' <;> omega
theorem stn_ne (n r : Nat) (h : r < 2 ^ 32) (h0 : r ≠ 0) : stn n r ≠ 0 := by
  induction n generalizing r with
  | zero => exact h0
  | succ n ih => exact ih _ (st_lt r h) (st_ne r h h0)

/-- splitting off the low bits -/
theorem split_low (n r : Nat) : r = (r / 2 ^ n * 2 ^ n) ^^^ (r % 2 ^ n) := by
  have h := Nat.two_pow_add_eq_or_of_lt (b := r % 2 ^ n) (i := n) (Nat.mod_lt _ (Nat.two_pow_pos n)) (r / 2 ^ n)
  apply Nat.eq_of_testBit_eq
  intro i
  rw [Nat.testBit_xor, Nat.testBit_mul_two_pow, Nat.testBit_mod_two_pow, Nat.testBit_div_two_pow]
  by_cases hi : i < n
  · simp [hi, Nat.not_le.2 hi]
  · have hi' : n ≤ i := Nat.le_of_not_lt hi
    simp [hi, hi']
theorem stn_split (n r : Nat) : stn n r = (r / 2 ^ n) ^^^ stn n (r % 2 ^ n) := by
  rw [split_low n r, stn_xor, stn_mul, ← split_low]

/-- the table of four steps -/
def tab (i : Nat) : Nat := [0x00000000, 0x105EC76F, 0x20BD8EDE, 0x30E349B1, 0x417B1DBC, 0x5125DAD3, 0x61C69362, 0x7198540D, 0x82F63B78, 0x92A8FC17, 0xA24BB5A6, 0xB21572C9, 0xC38D26C4, 0xD3D3E1AB, 0xE330A81A, 0xF36E6F75].getD i 0
theorem tab_eq (i : Nat) (h : i < 16) : stn 4 i = tab i := by
  have : ∀ i : Fin 16, stn 4 i.1 = tab i.1 := by decide
  exact this ⟨i, h⟩
theorem four (r : Nat) : stn 4 r = (r / 16) ^^^ tab (r % 16) := by
  rw [stn_split 4 r, ← tab_eq (r % 16) (Nat.mod_lt _ (by decide))]

/-- the register behind bytes -/
def fold : List UInt8 → Nat → Nat
  | [], c => c
  | b :: bs, c => fold bs (stn 8 (c ^^^ b.toNat))
theorem fold_append (s t : List UInt8) (c : Nat) : fold (s ++ t) c = fold t (fold s c) := by
  induction s generalizing c with
  | nil => rfl
  | cons b s ih => exact ih _
theorem fold_lt (s : List UInt8) (c : Nat) (h : c < 2 ^ 32) : fold s c < 2 ^ 32 := by
  induction s generalizing c with
  | nil => exact h
  | cons b s ih =>
    apply ih; apply stn_lt; apply Nat.xor_lt_two_pow h
    have := b.toNat_lt; omega
/-- bytes as one number, the first lowest -/
def big : List UInt8 → Nat
  | [] => 0
  | b :: bs => b.toNat + 256 * big bs

theorem xor_high (b x n : Nat) (h : b < 2 ^ n) : b ^^^ (x * 2 ^ n) = b + x * 2 ^ n := by
  have h2 := split_low n (b + x * 2 ^ n)
  have hp := Nat.two_pow_pos n
  have e1 : (b + x * 2 ^ n) / 2 ^ n = x := by rw [Nat.add_mul_div_right _ _ hp, Nat.div_eq_of_lt h]; omega
  have e2 : (b + x * 2 ^ n) % 2 ^ n = b := by rw [Nat.add_mul_mod_self_right, Nat.mod_eq_of_lt h]
  rw [e1, e2] at h2
  rw [h2, Nat.xor_comm]

/-- the register behind bytes is the whole text's register, stepped on -/
theorem fold_big (s : List UInt8) (c : Nat) : fold s c = stn (8 * s.length) (c ^^^ big s) := by
  induction s generalizing c with
  | nil => simp [fold, big, stn]
  | cons b s ih =>
    rw [fold, ih, big, List.length_cons, Nat.mul_add, Nat.add_comm (8 * s.length) (8 * 1), stn_add]
    congr 1
    have hb : b.toNat < 2 ^ 8 := b.toNat_lt
    have e : b.toNat + 256 * big s = b.toNat ^^^ (big s * 2 ^ 8) := by rw [xor_high _ _ _ hb]; omega
    rw [e, ← Nat.xor_assoc, stn_xor (8 * 1) _ (big s * 2 ^ 8)]
    show _ = _ ^^^ stn 8 (big s * 2 ^ 8)
    rw [stn_mul]

/-- two texts of one length: their registers differ by the stepped difference -/
theorem fold_diff (s t : List UInt8) (c : Nat) (h : s.length = t.length) : fold s c ^^^ fold t c = stn (8 * s.length) (big s ^^^ big t) := by
  rw [fold_big, fold_big, ← h, ← stn_xor, xor4, Nat.xor_self, Nat.zero_xor]
theorem fold_lin (t : List UInt8) (a b : Nat) : fold t a ^^^ fold t b = stn (8 * t.length) (a ^^^ b) := by
  rw [fold_big, fold_big, ← stn_xor, xor4, Nat.xor_self, Nat.xor_zero]

/-- a burst of at most 32 bits is seen -/
theorem burst (s t : List UInt8) (c M at' : Nat) (h : s.length = t.length) (hM : M < 2 ^ 32) (hd : big s ^^^ big t = M * 2 ^ at') (hat : at' ≤ 8 * s.length) :
    (fold s c = fold t c) ↔ M = 0 := by
  have hx := fold_diff s t c h
  rw [hd] at hx
  obtain ⟨k, hk⟩ := Nat.le.dest hat
  rw [← hk, stn_add, stn_mul] at hx
  constructor
  · intro e
    rw [e, Nat.xor_self] at hx
    by_cases h0 : M = 0
    · exact h0
    · exact absurd hx.symm (stn_ne k M hM h0)
  · intro e
    rw [e, stn_zero] at hx
    exact eq_of_xor _ _ hx

/-- the product of two registers, the highest bit of b first -/
def pr : Nat → Nat → Nat → Nat
  | 0, _, _ => 0
  | n + 1, a, b => (if b.testBit n then a else 0) ^^^ pr n (st a) b
theorem pr_map (f : Nat → Nat) (h0 : f 0 = 0) (hx : ∀ a b, f (a ^^^ b) = f a ^^^ f b) (hs : ∀ a, f (st a) = st (f a)) (n a b : Nat) : pr n (f a) b = f (pr n a b) := by
  induction n generalizing a with
  | zero => simp [pr, h0]
  | succ n ih =>
    rw [pr, pr, hx, ← hs, ih]
    split <;> simp [h0]
theorem pr_zero (n b : Nat) : pr n 0 b = 0 := by
  induction n with
  | zero => rfl
  | succ n ih => rw [pr, st_zero, ih]; simp
theorem pr_xor (n a a' b : Nat) : pr n (a ^^^ a') b = pr n a b ^^^ pr n a' b := by
  induction n generalizing a a' with
  | zero => simp [pr]
  | succ n ih =>
    rw [pr, pr, pr, st_xor, ih, xor4]
    congr 1
    split <;> simp
theorem pr_st (n a b : Nat) : pr n (st a) b = st (pr n a b) := pr_map st st_zero st_xor (fun _ => rfl) n a b
theorem pr_comm' (m n a b c : Nat) : pr n (pr m a c) b = pr m (pr n a b) c :=
  pr_map (fun a => pr m a c) (pr_zero m c) (fun a a' => pr_xor m a a' c) (fun a => pr_st m a c) n a b
theorem st_pow (n : Nat) : st (2 ^ (n + 1)) = 2 ^ n := by
  have h := stn_mul 1 (2 ^ n)
  rw [← Nat.pow_add] at h
  exact h
theorem pr_one (n a : Nat) : pr (n + 1) (2 ^ n) a = a % 2 ^ (n + 1) := by
  induction n with
  | zero =>
    rw [pr, pr, Nat.xor_zero, Nat.testBit_zero]
    rcases Nat.mod_two_eq_zero_or_one a with h | h <;> simp [h]
  | succ n ih =>
    rw [pr, st_pow, ih]
    have h1 := split_low (n + 1) (a % 2 ^ (n + 1 + 1))
    rw [Nat.mod_mod_of_dvd _ (Nat.pow_dvd_pow 2 (by omega))] at h1
    rw [h1]
    congr 1
    rw [Nat.testBit_eq_decide_div_mod_eq, Nat.pow_succ 2 (n + 1), Nat.mod_mul_right_div_self]
    rcases Nat.mod_two_eq_zero_or_one (a / 2 ^ (n + 1)) with h | h <;> simp [h]
/-- the product -/
def pd (a b : Nat) : Nat := pr 32 a b
theorem pd_e (a : Nat) (h : a < 2 ^ 32) : pd (2 ^ 31) a = a := by
  unfold pd
  rw [pr_one 31 a, Nat.mod_eq_of_lt h]
theorem pr_lt (n a b : Nat) (h : a < 2 ^ 32) : pr n a b < 2 ^ 32 := by
  induction n generalizing a with
  | zero => simp [pr]
  | succ n ih =>
    rw [pr]
    apply Nat.xor_lt_two_pow _ (ih _ (st_lt a h))
    split
    · exact h
    · decide
theorem pd_lt (a b : Nat) (h : a < 2 ^ 32) : pd a b < 2 ^ 32 := pr_lt 32 a b h
theorem pd_comm (a b : Nat) (ha : a < 2 ^ 32) (hb : b < 2 ^ 32) : pd a b = pd b a := by
  conv => lhs; rw [← pd_e a ha]
  conv => rhs; rw [← pd_e b hb]
  exact pr_comm' 32 32 _ _ _
theorem pd_assoc (a b c : Nat) (ha : a < 2 ^ 32) (hb : b < 2 ^ 32) : pd a (pd b c) = pd (pd a b) c := by
  rw [pd_comm a _ ha (pd_lt _ _ hb)]
  show pr 32 (pr 32 b c) a = _
  rw [pr_comm' 32 32]
  show pd (pd b a) c = _
  rw [pd_comm b a hb ha]
/-- a power of x: the product by 2 ^ (31 - k) is k steps -/
theorem pr_lowbits (n a b : Nat) (h : b < 2 ^ (n)) (m : Nat) : pr (n + m) a b = pr n (stn m a) b := by
  induction m generalizing a with
  | zero => rfl
  | succ m ih =>
    rw [← Nat.add_assoc, pr, ih, stn]
    have : b.testBit (n + m) = false := Nat.testBit_lt_two_pow (Nat.lt_of_lt_of_le h (Nat.pow_le_pow_right (by decide) (by omega)))
    rw [this]; simp
theorem pr_pow0 (n a : Nat) : pr (n + 1) a (2 ^ n) = a := by
  rw [pr]
  have h : ∀ m a, m ≤ n → pr m a (2 ^ n) = 0 := by
    intro m
    induction m with
    | zero => intros; rfl
    | succ m ih =>
      intro a hm
      rw [pr, ih _ (by omega)]
      have : (2 ^ n).testBit m = false := by rw [Nat.testBit_two_pow]; simp; omega
      rw [this]; simp
  rw [h n _ (Nat.le_refl _)]
  simp
theorem pd_byte (a : Nat) : pd a (2 ^ 23) = stn 8 a := by
  unfold pd
  rw [show 32 = 24 + 8 from rfl, pr_lowbits 24 a (2 ^ 23) (by decide) 8, pr_pow0 23]

/-- the power by squares -/
def jo : Nat → Nat → Nat → Nat → Nat
  | 0, _, a, _ => a
  | f + 1, n, a, sq => if n = 0 then a else jo f (n / 2) (if n % 2 = 1 then pd a sq else a) (pd sq sq)
/-- what n products do -/
def pn : Nat → Nat → Nat → Nat
  | 0, a, _ => a
  | n + 1, a, sq => pn n (pd a sq) sq
theorem pn_add (m n a sq : Nat) : pn (m + n) a sq = pn n (pn m a sq) sq := by
  induction m generalizing a with
  | zero => simp [pn]
  | succ m ih => rw [Nat.succ_add, pn, pn, ih]
theorem pn_lt (n a sq : Nat) (h : a < 2 ^ 32) : pn n a sq < 2 ^ 32 := by
  induction n generalizing a with
  | zero => exact h
  | succ n ih => exact ih _ (pd_lt _ _ h)
theorem pn_two (n a sq : Nat) (ha : a < 2 ^ 32) (hs : sq < 2 ^ 32) : pn (2 * n) a sq = pn n a (pd sq sq) := by
  induction n generalizing a with
  | zero => rfl
  | succ n ih =>
    rw [Nat.mul_add, Nat.add_comm, pn_add]
    show pn (2 * n) (pd (pd a sq) sq) sq = pn n (pd a (pd sq sq)) (pd sq sq)
    rw [ih _ (pd_lt _ _ (pd_lt _ _ ha)), pd_assoc a sq sq ha hs]
theorem jo_eq (f n a sq : Nat) (hf : n < 2 ^ f) (ha : a < 2 ^ 32) (hs : sq < 2 ^ 32) : jo f n a sq = pn n a sq := by
  induction f generalizing n a sq with
  | zero =>
    have : n = 0 := by simp at hf; omega
    subst this; rfl
  | succ f ih =>
    rw [jo]
    by_cases h0 : n = 0
    · rw [if_pos h0, h0]; rfl
    · rw [if_neg h0]
      have hn : n / 2 < 2 ^ f := by rw [Nat.pow_succ] at hf; omega
      have hp := pd_lt a sq ha
      rw [ih (n / 2) _ _ hn (by split <;> assumption) (pd_lt _ _ hs)]
      rw [← pn_two _ _ _ (by split <;> assumption) hs]
      rcases Nat.mod_two_eq_zero_or_one n with h | h
      · rw [if_neg (by omega)]
        rw [show 2 * (n / 2) = n from by omega]
      · rw [if_pos h]
        conv => rhs; rw [show n = 2 * (n / 2) + 1 from by omega]
        rfl
theorem pn_byte (n a : Nat) : pn n a (2 ^ 23) = stn (8 * n) a := by
  induction n generalizing a with
  | zero => rfl
  | succ n ih => rw [pn, ih, pd_byte, ← stn_add, Nat.mul_add, Nat.add_comm]
end Go.Proofs.YtfdfbjijomepgaaDoor.Crc
