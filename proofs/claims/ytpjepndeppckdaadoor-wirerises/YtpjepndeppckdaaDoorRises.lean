/- The walk of WireRises. -/
import Derived.Test.YtpjepndeppckdaaDoorWorks
import Derived.Test.YtpjepndeppckdaaDoorFix
namespace Go.Proofs.YtpjepndeppckdaaDoor
open Go.RowKit Go.Lib Crc

theorem Put.other {w w' : World} {a r r' a2 r2 : Nat} {bs bs2 : List UInt8} (h : Put w w' a r r' bs) (k : Wr w a2 r2 bs2) (h1 : a2 ≠ a) (h2 : a2 ≠ r) (h3 : r2 ≠ a) (h4 : r2 ≠ r) : Wr w' a2 r2 bs2 := k.upd h.2.2 h1 h2 h3 h4
set_option maxRecDepth 100000 in
set_option maxHeartbeats 1000000 in
theorem rises_bad (a b : Nat) (n : Int) (w : World) (hn : n < 1 ∨ 8 < n) (hT : Tab w) :
    Calls Tryd.prog 7 #[.int .u64 a, .int .u64 b, .int .i64 n] w fun e w' => e = .returned (.bool true) ∧ Below w.heap.size w w' := by
  have hpos := hT.pos
  have HT := hide hT
  have HN := hide hn
  clear hT hn
  have H0 : Hid (∀ (u : World) (X : Nat), (Calls Tryd.prog 32 #[.pointer (some ⟨X, 0, none⟩), .int .u64 a, .int .i64 n] u fun e w' => e = .returned (.int .i64 1) ∧ w' = u)) := fun u X => wFixedBad X a n u (unhide HN)
  have H1 : Hid (∀ (u : World) (X : Nat), (Calls Tryd.prog 32 #[.pointer (some ⟨X, 0, none⟩), .int .u64 b, .int .i64 n] u fun e w' => e = .returned (.int .i64 1) ∧ w' = u)) := fun u X => wFixedBad X b n u (unhide HN)
  rcases unhide HN with hn | hn
  all_goals
    have hn1 : n < 1 ∨ ¬ n < 1 := by omega
    rcases hn1 with hn1 | hn1
    all_goals first
      | (exfalso; omega)
      | skip
    go_enter Tryd.func7, Tryd.ntmps7
    go_wp2_with fail
    refine (works_ok w (unhide HT)).mono ?_
    rintro e w1 ⟨rfl, hb⟩
    have HB := hide hb
    have hsz := hb.size
    clear hb
    go_wp2_with fail
    refine (wNew _).mono ?_
    rintro e w2 ⟨rfl, rfl⟩
    go_wp2_with fail
    refine (wNew _).mono ?_
    rintro e w2 ⟨rfl, rfl⟩
    go_wp2_with fail
    refine (unhide H0 _ _).mono ?_
    rintro e w2 ⟨rfl, rfl⟩
    go_wp2_with fail
    refine (unhide H1 _ _).mono ?_
    rintro e w2 ⟨rfl, he⟩
    subst he
    go_wp2_with fail
    refine (wLen w1.heap.size w1.heap.size [] _ ((Wr.new w1 _).alloc _)).mono ?_
    rintro e w2 ⟨rfl, he⟩
    subst he
    go_wp2
    go_ret
    exact ⟨rfl, ((unhide HB).alloc (by omega) _).alloc (by simp; omega) _⟩

theorem big_wrap (m : Nat) (hm8 : m < 8) : IntKind.u64.wrap (IntKind.u64.wrap (2 ^ (8 * m)) - 1) = ((256 ^ m - 1 : Nat) : Int) := by
  rw [pow8, IntKind.wrap_u64, IntKind.wrap_u64]
  have h1 : 256 ^ m ≤ 256 ^ 7 := Nat.pow_le_pow_right (by decide) (by omega)
  have h2 : 0 < 256 ^ m := Nat.pow_pos (by decide)
  omega
theorem big_of (m a b : Nat) (hm8 : m < 8) (ha : a < 256 ^ m) (hb : b < 256 ^ m) : ∃ G : Nat, IntKind.u64.wrap (IntKind.u64.wrap (2 ^ (8 * m)) - 1) = (G : Int) ∧ a ≤ G ∧ b ≤ G :=
  ⟨256 ^ m - 1, big_wrap m hm8, by omega, by omega⟩
set_option maxRecDepth 100000 in
set_option maxHeartbeats 1000000 in
theorem rises_fit (a b m : Nat) (w : World) (hm1 : 1 ≤ m) (hm8 : m < 8) (ha : a < 256 ^ m) (hb : b < 256 ^ m) (hT : Tab w) :
    Calls Tryd.prog 7 #[.int .u64 a, .int .u64 b, .int .i64 m] w fun e w' => e = .returned (.bool true) ∧ Below w.heap.size w w' := by
  have hpos := hT.pos
  have HT := hide hT
  have HA := hide ha
  have HBB := hide hb
  obtain ⟨G, hG, haG, hbG⟩ := big_of m a b hm8 ha hb
  clear hT ha hb
  go_enter Tryd.func7, Tryd.ntmps7
  go_wp2_with fail
  refine (works_ok w (unhide HT)).mono ?_
  rintro e w1 ⟨rfl, hb⟩
  have HB := hide hb
  have hsz := hb.size
  clear hb
  go_wp2_with fail
  refine (wNew _).mono ?_
  rintro e w2 ⟨rfl, rfl⟩
  go_wp2_with fail
  refine (wNew _).mono ?_
  rintro e w2 ⟨rfl, rfl⟩
  have hX := (Wr.new w1 70).alloc (.cells #[.slice none 0 0] 70)
  have hY := Wr.new (w1.alloc (.cells #[.slice none 0 0] 70)) 70
  rw [World.size_alloc] at hY ⊢
  have hBW : Below w.heap.size w ((w1.alloc (.cells #[.slice none 0 0] 70)).alloc (.cells #[.slice none 0 0] 70)) := ((unhide HB).alloc (by omega) _).alloc (by simp; omega) _
  have hs2 : w1.heap.size + 1 < ((w1.alloc (.cells #[.slice none 0 0] 70)).alloc (.cells #[.slice none 0 0] 70)).heap.size := by simp
  have HX := hide hX
  have HY := hide hY
  have HBW := hide hBW
  clear hX hY hBW HB
  generalize (w1.alloc (.cells #[.slice none 0 0] 70)).alloc (.cells #[.slice none 0 0] 70) = w2 at HX HY HBW hs2 ⊢
  generalize w1.heap.size = X at *
  go_wp2_with fail
  refine (wFixed X X [] a m _ (unhide HX) (by omega) (by omega) (by rw [Int.toNat_natCast]; exact unhide HA) (by decide)).mono ?_
  rintro e w3 ⟨rfl, r3, hp⟩
  have H3 := hide hp
  have HY3 := hide (hp.other (unhide HY) (by omega) (by omega) (by omega) (by omega))
  clear hp
  go_wp2_with fail
  refine (wFixed (X + 1) (X + 1) [] b m _ (unhide HY3) (by omega) (by omega) (by rw [Int.toNat_natCast]; exact unhide HBB) (by decide)).mono ?_
  rintro e w4 ⟨rfl, r4, hp⟩
  have H4 := hide hp
  have HX4 := hide (hp.other (unhide H3).1 (by omega) (by omega) (by have := (unhide H3).2.1; omega) (by have := (unhide H3).2.1; omega))
  clear hp
  have hBW4 : Below w.heap.size w w4 := ((unhide HBW).trans ((unhide H3).below (by omega) (by omega) (by omega))).trans ((unhide H4).below (by have := (unhide H3).2.2.size; omega) (by omega) (by omega))
  have HB4 := hide hBW4
  have HY4 := hide (unhide H4).1
  clear hBW4 H3 H4 HX HY HY3 HBW
  rw [List.nil_append, Int.toNat_natCast] at HX4 HY4
  go_wp2_with fail
  refine (wLen X r3 _ _ (unhide HX4)).mono ?_
  rintro e w5 ⟨rfl, rfl⟩
  rw [fixB_length]
  go_wp2_with fail
  refine (wTold X r3 _ _ (unhide HX4)).mono ?_
  rintro e w5 ⟨rfl, rfl⟩
  go_wp2_with fail
  refine (wTold (X + 1) r4 _ _ (unhide HY4)).mono ?_
  rintro e w5 ⟨rfl, rfl⟩
  have hless := fixB_less m a b (unhide HA) (unhide HBB)
  go_wp2_with fail
  refine (wTold X r3 _ _ (unhide HX4)).mono ?_
  rintro e w6 ⟨rfl, rfl⟩
  go_wp2_with fail
  refine (wTold (X + 1) r4 _ _ (unhide HY4)).mono ?_
  rintro e w6 ⟨rfl, rfl⟩
  have heq : (fixB a m == fixB b m) = ((a : Int) == (b : Int)) := by
    rw [Bool.eq_iff_iff, beq_iff_eq, beq_iff_eq, fixB_inj a b m (unhide HA) (unhide HBB)]; omega
  go_wp2
  go_ret
  refine ⟨?_, unhide HB4⟩
  simp
set_option maxRecDepth 100000 in
set_option maxHeartbeats 1000000 in
theorem rises_8 (a b : Nat) (w : World) (ha : a < 256 ^ 8) (hb : b < 256 ^ 8) (hT : Tab w) :
    Calls Tryd.prog 7 #[.int .u64 a, .int .u64 b, .int .i64 8] w fun e w' => e = .returned (.bool true) ∧ Below w.heap.size w w' := by
  have hpos := hT.pos
  have HT := hide hT
  have HA := hide ha
  have HBB := hide hb
  have haG : decide ((a : Int) ≤ 18446744073709551615) = true := by rw [decide_eq_true_eq]; omega
  have hbG : decide ((b : Int) ≤ 18446744073709551615) = true := by rw [decide_eq_true_eq]; omega
  clear hT ha hb
  go_enter Tryd.func7, Tryd.ntmps7
  go_wp2_with fail
  refine (works_ok w (unhide HT)).mono ?_
  rintro e w1 ⟨rfl, hb⟩
  have HB := hide hb
  have hsz := hb.size
  clear hb
  go_wp2_with fail
  refine (wNew _).mono ?_
  rintro e w2 ⟨rfl, rfl⟩
  go_wp2_with fail
  refine (wNew _).mono ?_
  rintro e w2 ⟨rfl, rfl⟩
  have hX := (Wr.new w1 70).alloc (.cells #[.slice none 0 0] 70)
  have hY := Wr.new (w1.alloc (.cells #[.slice none 0 0] 70)) 70
  rw [World.size_alloc] at hY ⊢
  have hBW : Below w.heap.size w ((w1.alloc (.cells #[.slice none 0 0] 70)).alloc (.cells #[.slice none 0 0] 70)) := ((unhide HB).alloc (by omega) _).alloc (by simp; omega) _
  have hs2 : w1.heap.size + 1 < ((w1.alloc (.cells #[.slice none 0 0] 70)).alloc (.cells #[.slice none 0 0] 70)).heap.size := by simp
  have HX := hide hX
  have HY := hide hY
  have HBW := hide hBW
  clear hX hY hBW HB
  generalize (w1.alloc (.cells #[.slice none 0 0] 70)).alloc (.cells #[.slice none 0 0] 70) = w2 at HX HY HBW hs2 ⊢
  generalize w1.heap.size = X at *
  go_wp2_with fail
  refine (wFixed X X [] a 8 _ (unhide HX) (by omega) (by omega) (unhide HA) (by decide)).mono ?_
  rintro e w3 ⟨rfl, r3, hp⟩
  have H3 := hide hp
  have HY3 := hide (hp.other (unhide HY) (by omega) (by omega) (by omega) (by omega))
  clear hp
  go_wp2_with fail
  refine (wFixed (X + 1) (X + 1) [] b 8 _ (unhide HY3) (by omega) (by omega) (unhide HBB) (by decide)).mono ?_
  rintro e w4 ⟨rfl, r4, hp⟩
  have H4 := hide hp
  have HX4 := hide (hp.other (unhide H3).1 (by omega) (by omega) (by have := (unhide H3).2.1; omega) (by have := (unhide H3).2.1; omega))
  clear hp
  have hBW4 : Below w.heap.size w w4 := ((unhide HBW).trans ((unhide H3).below (by omega) (by omega) (by omega))).trans ((unhide H4).below (by have := (unhide H3).2.2.size; omega) (by omega) (by omega))
  have HB4 := hide hBW4
  have HY4 := hide (unhide H4).1
  clear hBW4 H3 H4 HX HY HY3 HBW
  rw [List.nil_append, show (8 : Int).toNat = 8 from rfl] at HX4 HY4
  go_wp2_with fail
  refine (wLen X r3 _ _ (unhide HX4)).mono ?_
  rintro e w5 ⟨rfl, rfl⟩
  rw [fixB_length]
  go_wp2_with fail
  refine (wTold X r3 _ _ (unhide HX4)).mono ?_
  rintro e w5 ⟨rfl, rfl⟩
  go_wp2_with fail
  refine (wTold (X + 1) r4 _ _ (unhide HY4)).mono ?_
  rintro e w5 ⟨rfl, rfl⟩
  have hless := fixB_less 8 a b (unhide HA) (unhide HBB)
  go_wp2_with fail
  refine (wTold X r3 _ _ (unhide HX4)).mono ?_
  rintro e w6 ⟨rfl, rfl⟩
  go_wp2_with fail
  refine (wTold (X + 1) r4 _ _ (unhide HY4)).mono ?_
  rintro e w6 ⟨rfl, rfl⟩
  have heq : (fixB a 8 == fixB b 8) = ((a : Int) == (b : Int)) := by
    rw [Bool.eq_iff_iff, beq_iff_eq, beq_iff_eq, fixB_inj a b 8 (unhide HA) (unhide HBB)]; omega
  go_wp2
  go_ret
  refine ⟨?_, unhide HB4⟩
  simp
set_option maxRecDepth 100000 in
set_option maxHeartbeats 1000000 in
theorem rises_yn (a b m : Nat) (w : World) (hm1 : 1 ≤ m) (hm8 : m < 8) (ha : a < 256 ^ m) (hb : 256 ^ m ≤ b) (hT : Tab w) :
    Calls Tryd.prog 7 #[.int .u64 a, .int .u64 b, .int .i64 m] w fun e w' => e = .returned (.bool true) ∧ Below w.heap.size w w' := by
  have hpos := hT.pos
  have HT := hide hT
  have HA := hide ha
  have HBB := hide hb
  obtain ⟨G, hG, haG, hbG⟩ : ∃ G : Nat, IntKind.u64.wrap (IntKind.u64.wrap (2 ^ (8 * m)) - 1) = (G : Int) ∧ a ≤ G ∧ G < b :=
    ⟨256 ^ m - 1, big_wrap m hm8, by have := Nat.pow_pos (n := m) (show 0 < 256 by decide); omega, by have := Nat.pow_pos (n := m) (show 0 < 256 by decide); omega⟩
  clear hT ha hb
  go_enter Tryd.func7, Tryd.ntmps7
  go_wp2_with fail
  refine (works_ok w (unhide HT)).mono ?_
  rintro e w1 ⟨rfl, hb⟩
  have HB := hide hb
  have hsz := hb.size
  clear hb
  go_wp2_with fail
  refine (wNew _).mono ?_
  rintro e w2 ⟨rfl, rfl⟩
  go_wp2_with fail
  refine (wNew _).mono ?_
  rintro e w2 ⟨rfl, rfl⟩
  have hX := (Wr.new w1 70).alloc (.cells #[.slice none 0 0] 70)
  have hY := Wr.new (w1.alloc (.cells #[.slice none 0 0] 70)) 70
  rw [World.size_alloc] at hY ⊢
  have hBW : Below w.heap.size w ((w1.alloc (.cells #[.slice none 0 0] 70)).alloc (.cells #[.slice none 0 0] 70)) := ((unhide HB).alloc (by omega) _).alloc (by simp; omega) _
  have hs2 : w1.heap.size + 1 < ((w1.alloc (.cells #[.slice none 0 0] 70)).alloc (.cells #[.slice none 0 0] 70)).heap.size := by simp
  have HX := hide hX
  have HY := hide hY
  have HBW := hide hBW
  clear hX hY hBW HB
  generalize (w1.alloc (.cells #[.slice none 0 0] 70)).alloc (.cells #[.slice none 0 0] 70) = w2 at HX HY HBW hs2 ⊢
  generalize w1.heap.size = X at *
  go_wp2_with fail
  refine (wFixed X X [] a m _ (unhide HX) (by omega) (by omega) (by rw [Int.toNat_natCast]; exact unhide HA) (by decide)).mono ?_
  rintro e w3 ⟨rfl, r3, hp⟩
  have hBW3 : Below w.heap.size w w3 := (unhide HBW).trans (hp.below (by omega) (by omega) (by omega))
  have HB3 := hide hBW3
  clear hp hBW3
  go_wp2_with fail
  refine (wFixedBig (X + 1) b m _ (by omega) (by omega) (by rw [Int.toNat_natCast]; exact unhide HBB)).mono ?_
  rintro e w4 ⟨rfl, he⟩
  subst he
  go_wp2
  go_ret
  exact ⟨rfl, unhide HB3⟩
set_option maxRecDepth 100000 in
set_option maxHeartbeats 1000000 in
theorem rises_ny (a b m : Nat) (w : World) (hm1 : 1 ≤ m) (hm8 : m < 8) (ha : 256 ^ m ≤ a) (hb : b < 256 ^ m) (hT : Tab w) :
    Calls Tryd.prog 7 #[.int .u64 a, .int .u64 b, .int .i64 m] w fun e w' => e = .returned (.bool true) ∧ Below w.heap.size w w' := by
  have hpos := hT.pos
  have HT := hide hT
  have HA := hide ha
  have HBB := hide hb
  obtain ⟨G, hG, haG, hbG⟩ : ∃ G : Nat, IntKind.u64.wrap (IntKind.u64.wrap (2 ^ (8 * m)) - 1) = (G : Int) ∧ G < a ∧ b ≤ G :=
    ⟨256 ^ m - 1, big_wrap m hm8, by have := Nat.pow_pos (n := m) (show 0 < 256 by decide); omega, by have := Nat.pow_pos (n := m) (show 0 < 256 by decide); omega⟩
  clear hT ha hb
  go_enter Tryd.func7, Tryd.ntmps7
  go_wp2_with fail
  refine (works_ok w (unhide HT)).mono ?_
  rintro e w1 ⟨rfl, hb⟩
  have HB := hide hb
  have hsz := hb.size
  clear hb
  go_wp2_with fail
  refine (wNew _).mono ?_
  rintro e w2 ⟨rfl, rfl⟩
  go_wp2_with fail
  refine (wNew _).mono ?_
  rintro e w2 ⟨rfl, rfl⟩
  have hX := (Wr.new w1 70).alloc (.cells #[.slice none 0 0] 70)
  have hY := Wr.new (w1.alloc (.cells #[.slice none 0 0] 70)) 70
  rw [World.size_alloc] at hY ⊢
  have hBW : Below w.heap.size w ((w1.alloc (.cells #[.slice none 0 0] 70)).alloc (.cells #[.slice none 0 0] 70)) := ((unhide HB).alloc (by omega) _).alloc (by simp; omega) _
  have hs2 : w1.heap.size + 1 < ((w1.alloc (.cells #[.slice none 0 0] 70)).alloc (.cells #[.slice none 0 0] 70)).heap.size := by simp
  have HX := hide hX
  have HY := hide hY
  have HBW := hide hBW
  clear hX hY hBW HB
  generalize (w1.alloc (.cells #[.slice none 0 0] 70)).alloc (.cells #[.slice none 0 0] 70) = w2 at HX HY HBW hs2 ⊢
  generalize w1.heap.size = X at *
  go_wp2_with fail
  refine (wFixedBig X a m _ (by omega) (by omega) (by rw [Int.toNat_natCast]; exact unhide HA)).mono ?_
  rintro e w3 ⟨rfl, he⟩
  subst he
  go_wp2_with fail
  refine (wFixed (X + 1) (X + 1) [] b m _ (unhide HY) (by omega) (by omega) (by rw [Int.toNat_natCast]; exact unhide HBB) (by decide)).mono ?_
  rintro e w4 ⟨rfl, r4, hp⟩
  have HB4 := hide ((unhide HBW).trans (hp.below (by omega) (by omega) (by omega)))
  clear hp
  go_wp2
  go_ret
  exact ⟨rfl, unhide HB4⟩
set_option maxRecDepth 100000 in
set_option maxHeartbeats 1000000 in
theorem rises_nn (a b m : Nat) (w : World) (hm1 : 1 ≤ m) (hm8 : m < 8) (ha : 256 ^ m ≤ a) (hb : 256 ^ m ≤ b) (hT : Tab w) :
    Calls Tryd.prog 7 #[.int .u64 a, .int .u64 b, .int .i64 m] w fun e w' => e = .returned (.bool true) ∧ Below w.heap.size w w' := by
  have hpos := hT.pos
  have HT := hide hT
  have HA := hide ha
  have HBB := hide hb
  obtain ⟨G, hG, haG, hbG⟩ : ∃ G : Nat, IntKind.u64.wrap (IntKind.u64.wrap (2 ^ (8 * m)) - 1) = (G : Int) ∧ G < a ∧ G < b :=
    ⟨256 ^ m - 1, big_wrap m hm8, by have := Nat.pow_pos (n := m) (show 0 < 256 by decide); omega, by have := Nat.pow_pos (n := m) (show 0 < 256 by decide); omega⟩
  clear hT ha hb
  go_enter Tryd.func7, Tryd.ntmps7
  go_wp2_with fail
  refine (works_ok w (unhide HT)).mono ?_
  rintro e w1 ⟨rfl, hb⟩
  have HB := hide hb
  have hsz := hb.size
  clear hb
  go_wp2_with fail
  refine (wNew _).mono ?_
  rintro e w2 ⟨rfl, rfl⟩
  go_wp2_with fail
  refine (wNew _).mono ?_
  rintro e w2 ⟨rfl, rfl⟩
  have hX := (Wr.new w1 70).alloc (.cells #[.slice none 0 0] 70)
  have hY := Wr.new (w1.alloc (.cells #[.slice none 0 0] 70)) 70
  rw [World.size_alloc] at hY ⊢
  have hBW : Below w.heap.size w ((w1.alloc (.cells #[.slice none 0 0] 70)).alloc (.cells #[.slice none 0 0] 70)) := ((unhide HB).alloc (by omega) _).alloc (by simp; omega) _
  have hs2 : w1.heap.size + 1 < ((w1.alloc (.cells #[.slice none 0 0] 70)).alloc (.cells #[.slice none 0 0] 70)).heap.size := by simp
  have HX := hide hX
  have HY := hide hY
  have HBW := hide hBW
  clear hX hY hBW HB
  generalize (w1.alloc (.cells #[.slice none 0 0] 70)).alloc (.cells #[.slice none 0 0] 70) = w2 at HX HY HBW hs2 ⊢
  generalize w1.heap.size = X at *
  go_wp2_with fail
  refine (wFixedBig X a m _ (by omega) (by omega) (by rw [Int.toNat_natCast]; exact unhide HA)).mono ?_
  rintro e w3 ⟨rfl, he⟩
  subst he
  go_wp2_with fail
  refine (wFixedBig (X + 1) b m _ (by omega) (by omega) (by rw [Int.toNat_natCast]; exact unhide HBB)).mono ?_
  rintro e w4 ⟨rfl, he⟩
  subst he
  go_wp2
  go_ret
  exact ⟨rfl, unhide HBW⟩

theorem rises_walk (a b : Nat) (n : Int) (w : World) (ha : a < 18446744073709551616) (hb : b < 18446744073709551616) (hT : Tab w) :
    Calls Tryd.prog 7 #[.int .u64 a, .int .u64 b, .int .i64 n] w fun e w' => e = .returned (.bool true) ∧ Below w.heap.size w w' := by
  by_cases hn : n < 1 ∨ 8 < n
  · exact rises_bad a b n w hn hT
  · obtain ⟨m, rfl⟩ := Int.eq_ofNat_of_zero_le (by omega : 0 ≤ n)
    by_cases h8 : m = 8
    · subst h8
      exact rises_8 a b w (by omega) (by omega) hT
    · rcases Nat.lt_or_ge a (256 ^ m) with h1 | h1 <;> rcases Nat.lt_or_ge b (256 ^ m) with h2 | h2
      · exact rises_fit a b m w (by omega) (by omega) h1 h2 hT
      · exact rises_yn a b m w (by omega) (by omega) h1 h2 hT
      · exact rises_ny a b m w (by omega) (by omega) h1 h2 hT
      · exact rises_nn a b m w (by omega) (by omega) h1 h2 hT
end Go.Proofs.YtpjepndeppckdaaDoor
