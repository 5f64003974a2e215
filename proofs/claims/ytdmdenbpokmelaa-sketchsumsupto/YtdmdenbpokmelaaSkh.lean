/- Sketches: the law's sameCells, sameItems; zero. -/
import Derived.Test.YtdmdenbpokmelaaSkg
namespace Go.Proofs.Ytdmdenbpokmelaa.K
open Go.RowKit Go.Lib
open Go.Proofs.Ytdmdenbpokmelaa.S (Rec)
theorem ceL_inj {a b : Ce} (h : ceL a = ceL b) : a = b := by
  simp only [ceL, List.cons.injEq, Value.int.injEq, true_and, and_true] at h
  obtain ⟨h1, h2, h3⟩ := h
  exact Ce.eq (BitVec.eq_of_toInt_eq h1) (BitVec.eq_of_toNat_eq (by omega)) (BitVec.eq_of_toNat_eq (by omega))
instance : DecidableEq Ce := fun a b => decidable_of_iff (a.c = b.c ∧ a.x = b.x ∧ a.k = b.k) ⟨fun h => Ce.eq h.1 h.2.1 h.2.2, fun h => by subst h; exact ⟨rfl, rfl, rfl⟩⟩
theorem at_ix {w : World} {l : List Ce} {ao : Option Addr} {c : Nat} (h : RC.At w l ao c) (i : Nat) (hi : i < l.length) : ∃ g o, ao = some ⟨g, o, none⟩ ∧
    (∀ W : World, (Instr.indexAt 32 (.slice ao l.length c) (.int .i64 (i : Int))).run Try.prog W = .ok (.pointer (some ⟨g, o + i * 3, none⟩)) W) ∧
    w.cell? ⟨g, o + i * 3, none⟩ = some (.int .i16 l[i].c.toInt) ∧ w.cell? ⟨g, o + i * 3 + 1, none⟩ = some (.int .u64 l[i].x.toNat) ∧ w.cell? ⟨g, o + i * 3 + 2, none⟩ = some (.int .u32 l[i].k.toNat) := by
  obtain ⟨g, o, rfl, h1⟩ := h.get hi
  exact ⟨g, o, rfl, fun W => RC.ix g o l.length c i hi W, h1 0 _ rfl, h1 1 _ rfl, h1 2 _ rfl⟩
theorem neqC (a1 a2 a3 b1 b2 b3 : Int) (u : World) : (binOp .neq 57 (.agg #[.int .i16 a1, .int .u64 a2, .int .u32 a3]) (.agg #[.int .i16 b1, .int .u64 b2, .int .u32 b3])).run Try.prog u = if a1 = b1 then if a2 = b2 then if a3 = b3 then .ok (.bool false) u else .ok (.bool true) u else .ok (.bool true) u else .ok (.bool true) u := by
  go_simp
theorem neqSame (x : Ce) (u : World) : (binOp .neq 57 (.agg #[.int .i16 x.c.toInt, .int .u64 x.x.toNat, .int .u32 x.k.toNat]) (.agg #[.int .i16 x.c.toInt, .int .u64 x.x.toNat, .int .u32 x.k.toNat])).run Try.prog u = .ok (.bool false) u := by
  rw [neqC, if_pos rfl, if_pos rfl, if_pos rfl]
theorem neqDiff {x y : Ce} (h : x ≠ y) (u : World) : (binOp .neq 57 (.agg #[.int .i16 x.c.toInt, .int .u64 x.x.toNat, .int .u32 x.k.toNat]) (.agg #[.int .i16 y.c.toInt, .int .u64 y.x.toNat, .int .u32 y.k.toNat])).run Try.prog u = .ok (.bool true) u := by
  rw [neqC]
  by_cases h1 : x.c.toInt = y.c.toInt
  · rw [if_pos h1]
    by_cases h2 : (x.x.toNat : Int) = (y.x.toNat : Int)
    · rw [if_pos h2]
      by_cases h3 : (x.k.toNat : Int) = (y.k.toNat : Int)
      · exact absurd (Ce.eq (BitVec.eq_of_toInt_eq h1) (BitVec.eq_of_toNat_eq (by omega)) (BitVec.eq_of_toNat_eq (by omega))) h
      · rw [if_neg h3]
    · rw [if_neg h2]
  · rw [if_neg h1]
set_option maxHeartbeats 2000000 in
theorem lSameC (l m : List Ce) (ao bo : Option Addr) (c d : Nat) (u : World) (h : RC.At u l ao c) (k : RC.At u m bo d) : Calls Try.prog 20 #[.slice ao l.length c, .slice bo m.length d] u fun e u' => e = .returned (.bool (decide (l = m))) ∧ ∃ z, u' = u.drewN z := by
  obtain ⟨r, hr⟩ : ∃ r, r = decide (l = m) := ⟨_, rfl⟩
  rw [← hr]
  have HR := hide hr
  clear hr
  obtain ⟨n, hn⟩ : ∃ n, n = l.length := ⟨_, rfl⟩
  obtain ⟨n2, hn2⟩ : ∃ n2, n2 = m.length := ⟨_, rfl⟩
  rw [← hn, ← hn2]
  by_cases he : n = n2
  · subst he
    have HN := hide hn
    have HN2 := hide hn2
    have HH := hide h
    have HK := hide k
    have hnm : (n : Int) ≤ 4398046511000 := by have := h.many; omega
    clear h k hn hn2
    go_enter Try.func20, Try.ntmps20
    go_wp2
    go_loopw [5] (fun s5 wr => ∃ i : Nat, i ≤ n ∧ s5 = .int .i64 (i : Int) ∧ Hid (∀ j (h1 : j < l.length) (h2 : j < m.length), j < i → l[j] = m[j]) ∧ Hid (∃ z, wr = u.drewN z)) (fun s5 _ => n - (intOf s5).toNat)
    case atStart => exact ⟨0, Nat.zero_le _, rfl, fun j _ _ hj => absurd hj (by omega), 0, rfl⟩
    case round =>
      obtain ⟨i, hi, rfl, HE, HZ⟩ := hrel
      by_cases hlt : i < n
      · have hii : (i : Int) < (n : Int) := by omega
        obtain ⟨z, hz⟩ := unhide HZ
        have hA := (unhide HH).below (S.belowDrewN (Below.refl _ _) z)
        have hB := (unhide HK).below (S.belowDrewN (Below.refl _ _) z)
        rw [← hz] at hA hB
        obtain ⟨g1, o1, rfl, ix1, a0, a1, a2⟩ := at_ix hA i (by rw [← unhide HN]; exact hlt)
        obtain ⟨g2, o2, rfl, ix2, b0, b1, b2⟩ := at_ix hB i (by rw [← unhide HN2]; exact hlt)
        rw [← unhide HN] at ix1
        rw [← unhide HN2] at ix2
        have HZ2 := hide hz
        clear hA hB hz HZ
        have HB1 : i < l.length := by rw [← unhide HN]; exact hlt
        have HB2 : i < m.length := by rw [← unhide HN2]; exact hlt
        by_cases hq : l[i] = m[i]
        · have HE2 : Hid (∀ j (h1 : j < l.length) (h2 : j < m.length), j < i + 1 → l[j] = m[j]) := fun j h1 h2 hj => by
            rcases Nat.lt_or_ge j i with h | h
            · exact unhide HE j h1 h2 h
            · obtain rfl : j = i := by omega
              exact hq
          rw [← hq] at b0 b1 b2
          have hne := neqSame l[i]
          generalize l[i] = x at *
          clear hq HB1 HB2
          go_wp2
          go_quiet (first | fail)
          go_wp2
          go_roundw
          case rel => exact ⟨i + 1, by omega, by go_num, HE2, z + nq, by rw [unhide HZ2]; exact World.drewN_drewN ..⟩
          case measure => simp [intOf]; omega
        · have hne := neqDiff hq
          have HD : Hid (¬ l = m) := fun e => hq (by subst e; rfl)
          generalize l[i] = x at *
          generalize m[i] = y at *
          clear hq HB1 HB2
          go_wp2
          go_quiet (first | fail)
          go_wp2
          go_ret
          exact ⟨by rw [unhide HR, decide_eq_false (unhide HD)]; rfl, z + nq, by rw [unhide HZ2]; exact World.drewN_drewN ..⟩
      · obtain rfl : i = n := by omega
        have hii : ¬ (i : Int) < (i : Int) := by omega
        go_wp2
        go_ret
        exact ⟨by rw [unhide HR, decide_eq_true (List.ext_getElem ((unhide HN).symm.trans (unhide HN2)) fun j h1 h2 => unhide HE j h1 h2 (by rw [unhide HN]; exact h1))]; rfl, unhide HZ⟩
  · have HD : Hid (¬ l = m) := fun e => he (by rw [hn, hn2, e])
    have he2 : ¬ (n : Int) = (n2 : Int) := by omega
    clear h k hn hn2
    go_enter Try.func20, Try.ntmps20
    go_wp2
    go_ret
    exact ⟨by rw [unhide HR, decide_eq_false (unhide HD)]; rfl, 0, rfl⟩
end Go.Proofs.Ytdmdenbpokmelaa.K
