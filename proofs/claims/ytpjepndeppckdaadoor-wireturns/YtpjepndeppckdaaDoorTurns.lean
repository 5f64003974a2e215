/- The walk of WireTurns. -/
import Derived.Test.YtpjepndeppckdaaDoorWorks
import Derived.Test.YtpjepndeppckdaaDoorCrcM
import Derived.Lib.ConvBytes
import Derived.RegionTactic
import Derived.ChangeAlike
namespace Go.Proofs.YtpjepndeppckdaaDoor
open Go.RowKit Go.Lib Crc

/-- a row of bytes at block X -/
structure Row (w : World) (X : Nat) (bs : List UInt8) : Prop where
  lt : X < w.heap.size
  cell : ∀ j, j < bs.length → w.cell? ⟨X, j, none⟩ = some (.int .u8 ((bs.getD j 0).toNat : Int))
  frozen : ∀ j, j < bs.length → w.frozen? ⟨X, j, none⟩ = false
theorem Row.of (w : World) (s : ByteArray) : Row (bytesWorld w 5 s) w.heap.size s.data.toList where
  lt := by rw [bytesWorld_size]; omega
  cell := fun j hj => bytesWorld_cell w _ s j (by rw [← size_toList]; exact hj)
  frozen := fun j hj => by
    have hs : j < s.size := by rw [← size_toList]; exact hj
    simp only [World.frozen?, bytesWorld_at_new]
    have hsz : s.size ≤ (bytesCells w 5 s).size := by simp only [bytesCells, Array.size_append, Array.size_map]; show s.data.size ≤ _; omega
    simp; omega
theorem Row.set {w : World} {X : Nat} {bs : List UInt8} (h : Row w X bs) (k : Nat) (b : UInt8) (hk : k < bs.length) : Row (w.setCell ⟨X, k, none⟩ (.int .u8 b.toNat)) X (bs.set k b) where
  lt := by simpa using h.lt
  cell := fun j hj => by
    rw [List.length_set] at hj
    by_cases e : j = k
    · subst e
      rw [World.cell?_setCell_same _ _ _ (h.cell j hj)]
      simp [List.getD, hk]
    · rw [World.cell?_setCell_other _ _ _ _ (fun h => e (by cases h; rfl)), h.cell j hj]
      simp [List.getD, List.getElem?_set_ne (fun h => e h.symm)]
  frozen := fun j hj => by
    rw [List.length_set] at hj
    simpa using h.frozen j hj
theorem Row.drewN {w : World} {X : Nat} {bs : List UInt8} (h : Row w X bs) (n : Nat) : Row (w.drewN n) X bs := ⟨h.lt, h.cell, h.frozen⟩
/-- a bit turned -/
theorem big_set (bs : List UInt8) (k r : Nat) (hk : k < bs.length) (hr : r < 8) : big (bs.set k (bs.getD k 0 ^^^ UInt8.ofNat (2 ^ r))) = big bs ^^^ 2 ^ (8 * k + r) := by
  induction bs generalizing k with
  | nil => simp at hk
  | cons b bs ih =>
    have hpr : 2 ^ r < 256 := by
      have : 2 ^ r ≤ 2 ^ 7 := Nat.pow_le_pow_right (by decide) (by omega)
      omega
    have e : ∀ x y : Nat, x < 256 → x + 256 * y = x ^^^ (y * 2 ^ 8) := fun x y hx => by rw [xor_high x y 8 hx]; omega
    have hb := b.toNat_lt
    cases k with
    | zero =>
      simp only [List.set_cons_zero, big, List.getD_cons_zero]
      have h1 : (b ^^^ UInt8.ofNat (2 ^ r)).toNat = b.toNat ^^^ 2 ^ r := by
        rw [UInt8.toNat_xor]; congr 1; simp; omega
      have h2 : b.toNat ^^^ 2 ^ r < 256 := Nat.xor_lt_two_pow (n := 8) hb hpr
      rw [h1, e _ _ h2, e _ _ hb, Nat.xor_assoc, Nat.xor_comm (2 ^ r), ← Nat.xor_assoc]
      simp
    | succ k =>
      have hk' : k < bs.length := by simpa using hk
      simp only [List.set_cons_succ, big, List.getD_cons_succ]
      rw [ih k hk', e _ _ hb, e _ _ hb, Nat.xor_assoc]
      congr 1
      have hs : ∀ x y : Nat, (x ^^^ y) * 2 ^ 8 = x * 2 ^ 8 ^^^ y * 2 ^ 8 := fun x y => by
        rw [← Nat.shiftLeft_eq, ← Nat.shiftLeft_eq, ← Nat.shiftLeft_eq, Nat.shiftLeft_xor_distrib]
      rw [hs, ← Nat.pow_add]
      congr 2
      omega
theorem xor8 (c : UInt8) (r : Nat) (hr : r < 8) : bits .xor .u8 (c.toNat : Int) (2 ^ r % 256) = ((c ^^^ UInt8.ofNat (2 ^ r)).toNat : Int) := by
  have hc := c.toNat_lt
  have hpr : 2 ^ r < 256 := by
    have : 2 ^ r ≤ 2 ^ 7 := Nat.pow_le_pow_right (by decide) (by omega)
    omega
  have e : ((2 : Int) ^ r % 256) = ((2 ^ r : Nat) : Int) := by
    have h2 : ((2 : Int) ^ r) = ((2 ^ r : Nat) : Int) := by simp
    rw [h2]
    generalize (2 : Nat) ^ r = P at hpr
    omega
  rw [e, u8_xor_nat _ _ hc hpr, UInt8.toNat_xor]
  congr 2
  simp; omega
theorem mask_succ (m k : Nat) (h : m / 2 ^ k % 2 = 1) : m % 2 ^ (k + 1) = m % 2 ^ k ^^^ 2 ^ k := by
  have e := split_low k (m % 2 ^ (k + 1))
  rw [Nat.mod_mod_of_dvd _ (Nat.pow_dvd_pow 2 (by omega)), Nat.pow_succ, Nat.mod_mul_right_div_self, h, Nat.one_mul] at e
  rw [Nat.pow_succ, e, Nat.xor_comm]
theorem mask_same (m k : Nat) (h : ¬ m / 2 ^ k % 2 = 1) : m % 2 ^ (k + 1) = m % 2 ^ k := by
  rw [Nat.pow_succ, Nat.mod_mul]
  have : m / 2 ^ k % 2 = 0 := by omega
  rw [this]; simp
theorem mul_xor (x y n : Nat) : (x ^^^ y) * 2 ^ n = x * 2 ^ n ^^^ y * 2 ^ n := by
  rw [← Nat.shiftLeft_eq, ← Nat.shiftLeft_eq, ← Nat.shiftLeft_eq, Nat.shiftLeft_xor_distrib]
theorem turn_end (s bs : List UInt8) (mask k A : Nat) (hm : mask < 4294967296) (hl : bs.length = s.length) (hA : A ≤ 8 * s.length) (hb : big bs = big s ^^^ (mask % 2 ^ k) * 2 ^ A) :
    (((4294967295 - fold bs 4294967295 : Nat) : Int) == ((4294967295 - fold s 4294967295 : Nat) : Int)) = !(decide (mask % 2 ^ k ≠ 0)) := by
  have h1 := fold_lt s 4294967295 (by decide)
  have h2 := fold_lt bs 4294967295 (by decide)
  have hM : mask % 2 ^ k < 2 ^ 32 := Nat.lt_of_le_of_lt (Nat.mod_le _ _) hm
  have hd : big bs ^^^ big s = (mask % 2 ^ k) * 2 ^ A := by rw [hb, Nat.xor_comm (big s), Nat.xor_assoc, Nat.xor_self, Nat.xor_zero]
  have := burst bs s 4294967295 (mask % 2 ^ k) A hl hM hd (by rw [hl]; exact hA)
  rw [Bool.eq_iff_iff]
  simp only [beq_iff_eq, Bool.not_eq_true', decide_eq_false_iff_not, ne_eq, Decidable.not_not]
  rw [← this]
  omega
theorem Row.drew {w : World} {X : Nat} {bs : List UInt8} (h : Row w X bs) : Row w.drew X bs := ⟨h.lt, h.cell, h.frozen⟩
theorem row_run {w : World} {X n cap : Nat} {bs : List UInt8} (h : Row w X bs) (hn : bs.length = n) : (convert 54 9 (.slice (some ⟨X, 0, none⟩) n cap)).run Tryd.prog w = .ok (.string ⟨bs.toArray⟩) w := by
  subst hn
  refine run_convert_bytes_back w 54 9 5 ⟨X, 0, none⟩ cap bs Tryd.underlying54 Tryd.underlying5 Tryd.underlying9 fun j hj => ?_
  have := h.cell j hj
  simp only [List.getD, List.getElem?_eq_getElem hj, Option.getD_some] at this
  have e : (⟨X, 0, none⟩ : Addr).add j = ⟨X, j, none⟩ := by cases j <;> simp [Addr.add]
  rw [e]; exact this
set_option maxRecDepth 100000 in
set_option maxHeartbeats 1000000 in
theorem turns_walk (s : ByteArray) (at' : Int) (mask : Nat) (w : World) (hs0 : 0 < s.size) (hs : s.size ≤ 140737488355328) (hm0 : 0 < mask) (hm : mask < 4294967296) (hT : Tab w) :
    Calls Tryd.prog 9 #[.string s, .int .i64 at', .int .u32 mask] w fun e w' => e = .returned (.bool true) ∧ Below w.heap.size w w' := by
  have hpos := hT.pos
  have HT := hide hT
  clear hT
  have hs1 : ((s.size : Int) == 0) = false := by rw [beq_eq_false_iff_ne]; omega
  have hm1 : ((mask : Int) == 0) = false := by rw [beq_eq_false_iff_ne]; omega
  have hz : ¬ (8 * (s.size : Int) = 0) := by omega
  have hA : (0 ≤ at'.tmod (8 * (s.size : Int)) ∧ ∃ A : Nat, at'.tmod (8 * (s.size : Int)) = (A : Int) ∧ A < 8 * s.size) ∨ (at'.tmod (8 * (s.size : Int)) < 0 ∧ ∃ A : Nat, at'.tmod (8 * (s.size : Int)) + 8 * (s.size : Int) = (A : Int) ∧ A < 8 * s.size) := by
    have h1 := Int.tmod_lt_of_pos at' (show 0 < 8 * (s.size : Int) by omega)
    have h2 := Int.lt_tmod_of_pos at' (show 0 < 8 * (s.size : Int) by omega)
    by_cases h : 0 ≤ at'.tmod (8 * (s.size : Int))
    · exact .inl ⟨h, (at'.tmod (8 * (s.size : Int))).toNat, by omega, by omega⟩
    · exact .inr ⟨by omega, (at'.tmod (8 * (s.size : Int)) + 8 * (s.size : Int)).toNat, by omega, by omega⟩
  rcases hA with ⟨hneg, A, hA, hAl⟩ | ⟨hneg, A, hA, hAl⟩
  all_goals
    have hrun := fun u : World => Lib.run_convert_string_bytes (P := Tryd.prog) u 9 54 5 s Tryd.underlying9 Tryd.underlying54 Tryd.underlying5
    go_enter Tryd.func9, Tryd.ntmps9
    go_wp2_with fail
    refine (works_ok w (unhide HT)).mono ?_
    rintro e w1 ⟨rfl, hb⟩
    have HB := hide hb
    have hsz := hb.size
    clear hb
    go_wp2
    clear hrun hA hneg
    have HR0 := hide (Row.of w1 s)
    have HB0 : Hid (Below w1.heap.size w1 (bytesWorld w1 5 s)) := ⟨rfl, rfl, rfl, by rw [bytesWorld_size]; omega, fun k hk => bytesWorld_at_old w1 _ s k hk⟩
    go_loopw [8, 9] (fun t i wr => ∃ k : Nat, ∃ bs : List UInt8, ∃ tb : Bool, k ≤ 32 ∧ A + k ≤ 8 * s.size ∧ i = .int .i64 k ∧ t = .bool tb ∧ Hid (tb = decide (mask % 2 ^ k ≠ 0)) ∧ Hid (bs.length = s.size ∧ Row wr w1.heap.size bs ∧ Below w1.heap.size w1 wr ∧ big bs = big s.data.toList ^^^ (mask % 2 ^ k) * 2 ^ A)) (fun _ i _ => 32 - (intOf i).toNat)
    case atStart => exact ⟨0, s.data.toList, false, by omega, by omega, rfl, rfl, by simp [Nat.mod_one, Hid], hide ⟨size_toList s, unhide HR0, unhide HB0, by simp [Nat.mod_one]⟩⟩
    case round =>
      obtain ⟨k, bs, tb, hk, hAk, rfl, rfl, HTB, HI⟩ := hrel
      clear HR0 HB0
      by_cases hlt : k < 32 ∧ A + k < 8 * s.size
      · obtain ⟨hl1, hl2⟩ := hlt
        by_cases h2 : mask / 2 ^ k % 2 = 1
        · have hbit : (((mask : Int) / 2 ^ k).tmod 2 == 1) = true := by rw [cbit, h2]; rfl
          obtain ⟨q, hq, hq1, hqs⟩ : ∃ q : Nat, ((A : Int) + k) / 8 = (q : Int) ∧ q = (A + k) / 8 ∧ q < s.size := ⟨(A + k) / 8, by omega, rfl, by omega⟩
          obtain ⟨r, hr, hr1, hr8⟩ : ∃ r : Nat, ((A : Int) + k) % 8 = (r : Int) ∧ r = (A + k) % 8 ∧ r < 8 := ⟨(A + k) % 8, by omega, rfl, by omega⟩
          have HQ := hide (And.intro hq1 hr1)
          clear hq1 hr1
          have hc := (unhide HI).2.1.cell q (by rw [(unhide HI).1]; exact hqs)
          have hf := (unhide HI).2.1.frozen q (by rw [(unhide HI).1]; exact hqs)
          generalize hcc : bs.getD q 0 = c at hc
          have HCC := hide hcc
          obtain ⟨c', hx, HX⟩ : ∃ c' : UInt8, bits .xor .u8 (c.toNat : Int) (2 ^ r % 256) = (c'.toNat : Int) ∧ Hid (c' = c ^^^ UInt8.ofNat (2 ^ r)) := ⟨_, xor8 c r hr8, rfl⟩
          have HM := hide (mask_succ mask k h2)
          clear hcc h2
          have hqi : (q : Int) < (s.size : Int) := by omega
          go_wp2
          go_region
          go_wp2
          go_roundw
          case rel =>
            obtain ⟨i1, i2, i3, i4⟩ := unhide HI
            obtain ⟨q1, r1⟩ := unhide HQ
            refine ⟨k + 1, bs.set q c', true, by omega, by omega, by go_num, rfl, ?_, hide ⟨by rw [List.length_set]; exact i1, (i2.set q c' (by omega)).drew, (i3.setCell (Nat.le_refl _) _).drew, ?_⟩⟩
            · show true = _
              rw [unhide HM, eq_comm, decide_eq_true_eq]
              have hlt2 : mask % 2 ^ k < 2 ^ k := Nat.mod_lt _ (Nat.two_pow_pos k)
              have := xor_high (mask % 2 ^ k) 1 k hlt2
              rw [Nat.one_mul] at this
              rw [this]
              have := Nat.two_pow_pos k
              omega
            · rw [unhide HX, ← unhide HCC, big_set bs q r (by omega) hr8, i4, unhide HM, mul_xor, Nat.xor_assoc, ← Nat.pow_add]
              congr 3
              omega
          case measure => simp [intOf]; omega
        · have hbit : (((mask : Int) / 2 ^ k).tmod 2 == 1) = false := by rw [cbit, beq_eq_false_iff_ne]; omega
          have HM := hide (mask_same mask k h2)
          clear h2
          go_wp2
          go_roundw
          case rel =>
            obtain ⟨i1, i2, i3, i4⟩ := unhide HI
            refine ⟨k + 1, bs, tb, by omega, by omega, by go_num, rfl, ?_, hide ⟨i1, i2, i3, ?_⟩⟩
            · show tb = _
              rw [unhide HM]; exact unhide HTB
            · rw [unhide HM]; exact i4
          case measure => simp [intOf]; omega
      · have hrun2 := row_run (cap := grownCap w1 s.size 0 5) (unhide HI).2.1 (unhide HI).1
        have HE := hide (turn_end s.data.toList bs mask k A hm (by rw [(unhide HI).1, size_toList]) (by rw [size_toList]; omega) (unhide HI).2.2.2)
        have HB1 := hide ((unhide HB).trans ((unhide HI).2.2.1.mono hsz))
        have HT1 := hide ((unhide HT).below (unhide HB1) hpos)
        have hbl : bs.length ≤ 1125899906842624 := by rw [(unhide HI).1]; omega
        by_cases h32 : k < 32
        all_goals
          go_wp2_with fail
          refine (cSum ⟨bs.toArray⟩ _ (by show bs.toArray.size ≤ _; simpa using hbl) (unhide HT1)).mono ?_
          rintro e w3 ⟨rfl, rfl⟩
          go_wp2_with fail
          refine (cSum s _ (by omega) (unhide HT1)).mono ?_
          rintro e w3 ⟨rfl, rfl⟩
          have he := unhide HE
          rw [← unhide HTB] at he
          go_wp2
          go_ret
          refine ⟨?_, unhide HB1⟩
          cases tb <;> rfl

theorem turns_triv (s : ByteArray) (at' : Int) (mask : Nat) (w : World) (hz : s.size = 0 ∨ mask = 0) (hT : Tab w) :
    Calls Tryd.prog 9 #[.string s, .int .i64 at', .int .u32 mask] w fun e w' => e = .returned (.bool true) ∧ Below w.heap.size w w' := by
  have hpos := hT.pos
  have HT := hide hT
  clear hT
  by_cases h0 : s.size = 0
  · have hs1 : ((s.size : Int) == 0) = true := by rw [beq_iff_eq]; omega
    clear h0 hz
    go_enter Tryd.func9, Tryd.ntmps9
    go_wp2_with fail
    refine (works_ok w (unhide HT)).mono ?_
    rintro e w1 ⟨rfl, hb⟩
    have HB := hide hb
    clear hb
    go_wp2
    go_ret
    exact ⟨rfl, unhide HB⟩
  · have hs1 : ((s.size : Int) == 0) = false := by rw [beq_eq_false_iff_ne]; omega
    have hm1 : ((mask : Int) == 0) = true := by rw [beq_iff_eq]; omega
    clear h0 hz
    go_enter Tryd.func9, Tryd.ntmps9
    go_wp2_with fail
    refine (works_ok w (unhide HT)).mono ?_
    rintro e w1 ⟨rfl, hb⟩
    have HB := hide hb
    clear hb
    go_wp2
    go_ret
    exact ⟨rfl, unhide HB⟩
theorem turns_all (s : ByteArray) (at' : Int) (mask : Int) (w : World) (hs : s.size ≤ 140737488355328) (hm : 0 ≤ mask ∧ mask ≤ 4294967295) (hT : Tab w) :
    Calls Tryd.prog 9 #[.string s, .int .i64 at', .int .u32 mask] w fun e w' => e = .returned (.bool true) ∧ Below w.heap.size w w' := by
  obtain ⟨M, rfl⟩ := Int.eq_ofNat_of_zero_le hm.1
  by_cases h : s.size = 0 ∨ M = 0
  · exact turns_triv s at' M w h hT
  · exact turns_walk s at' M w (by omega) hs (by omega) (by omega) hT
end Go.Proofs.YtpjepndeppckdaaDoor
