/- Put together out of Skg, Skh. -/
import Derived.Test.YtopabadnbelegaaQ01
namespace Go.Proofs.Ytopabadnbelegaa.K
open Go.RowKit Go.Lib
open Go.Proofs.Ytopabadnbelegaa.S (Rec)
theorem wpList_putC {ops : Array Oper} {rest : List Oper} {o : Oper} {a : Act} {w : World} {Q : Exit → Act → World → Prop} (hgd : o.guard = none) (s x : Operand) (ho : o.op = .call { callee := .builtin .append, args := #[s, x], argTypes := #[32, 32] }) (d : Option Tmp) (hd : o.dst = d)
    (B : Nat) (l m : List Ce) (n1 n2 : Nat) (e1 : n1 = l.length) (e2 : n2 = m.length) (ao bo : Option Addr) (c c2 : Nat) (hs : a.eval s = .slice ao n1 c) (hx : a.eval x = .slice bo n2 c2) (hown : RC.Own w B l ao c) (hm : RC.At w m bo c2) (hl : (l.length + m.length) * 24 ≤ 140737488355328) (hB : B ≤ w.heap.size)
    (h : ∀ ao' n' c' w', Hid (RC.Put w w' B l m ao c ao' n' c') → wpList Try.prog ops Q rest (a.put d (.slice ao' n' c')) w') : wpList Try.prog ops Q (o :: rest) a w :=
  RC.wpList_put hgd s x ho d hd B l m n1 n2 e1 e2 ao bo c c2 hs hx hown hm hl hB h
theorem Own.empty (W : World) (B : Nat) (hB : B ≤ W.heap.size) : RC.Own (W.alloc (.cells #[] 57)) B [] (some ⟨W.heap.size, 0, none⟩) 0 :=
  ⟨rfl, .inr ⟨W.heap.size, 0, #[], rfl, hB, heap_alloc_new _ _, Nat.le_refl _, by decide, rfl, rfl⟩⟩
theorem Sk.at {w : World} {a g cap : Nat} {l : List Ce} (h : Sk w a g cap l) : RC.At w l (some ⟨g, 0, none⟩) cap := by
  obtain ⟨cs, t, hr, hh⟩ := h.row
  refine ⟨fun _ => ⟨g, 0, rfl, fun j v hv => ?_⟩, h.hc, (fun e => by cases e), by have := h.hm; omega⟩
  have := hh j v hv
  simp [World.cell?, hr, this]
/-- a list behind a slice is a row's front -/
theorem own_hol {w : World} {B : Nat} {l : List Ce} {ao : Option Addr} {c : Nat} (h : RC.Own w B l ao c) (h3 : 3 ≤ l.length) : ∃ g cs t, ao = some ⟨g, 0, none⟩ ∧ B ≤ g ∧ w.heap[g]? = some (.cells cs t (0, 0)) ∧ Hol cs l ∧ l.length ≤ c := by
  rcases h.2 with ⟨_, hn⟩ | ⟨g, cp, cur, hv, h1, h2, h4, h5, h6, h7⟩
  · omega
  · cases hv
    refine ⟨g, _, _, rfl, h1, h2, fun j v hv => ?_, h4⟩
    rw [← h7, List.getElem?_take] at hv
    split at hv
    · simpa using hv
    · cases hv
set_option maxHeartbeats 1000000 in
theorem kClone (l : List Ce) (g c : Nat) (u : World) (h : RC.At u l (some ⟨g, 0, none⟩) c) (hm : l.length ≤ 256) : Calls Try.prog 30 #[.slice (some ⟨g, 0, none⟩) l.length c] u fun e u' => ∃ xo cc, e = .returned (.slice xo l.length cc) ∧ RC.Own u' u.heap.size l xo cc ∧ Below u.heap.size u u' := by
  obtain ⟨n, hn⟩ : ∃ n, n = l.length := ⟨_, rfl⟩
  have HN := hide hn
  have HM : Hid ((([] : List Ce).length + l.length) * 24 ≤ 140737488355328) := by show (0 + l.length) * 24 ≤ _; omega
  have hq : ∀ W : World, (binOp .eql 32 (.slice (some ⟨g, 0, none⟩) n c) (.slice none 0 0)).run Try.prog W = .ok (.bool false) W := fun W => by kernel_rfl
  have HA := hide (h.below ((Below.refl u.heap.size u).alloc (Nat.le_refl _) (.cells #[] 57)))
  have HS := hide (show u.heap.size ≤ (u.alloc (.cells #[] 57)).heap.size by rw [World.size_alloc]; omega)
  have HB := hide ((Below.refl u.heap.size u).alloc (Nat.le_refl _) (.cells #[] 57))
  rw [← hn]
  clear h hm hn
  go_enter Try.func30, Try.ntmps30
  go_wp2_with (first
    | (at_builtin; (with_reducible refine wpList_putC (by rfl) (.tmp 5) (.tmp 6) (by rfl) (some 7) (by rfl) u.heap.size [] l 0 n rfl (unhide HN) (some ⟨u.heap.size, 0, none⟩) (some ⟨g, 0, none⟩) 0 c (by with_unfolding_all rfl) (by with_unfolding_all rfl) (Own.empty u _ (Nat.le_refl _)) (unhide HA) (unhide HM) (unhide HS) ?_); intro x4 n4 c4 W4 HP4; simp only [Act.put, List.setIfInBounds_toArray, List.set_cons_zero, List.set_cons_succ]; have hn4 : n = n4 := ((unhide HP4).len.trans (unhide HN).symm).symm; subst hn4)
    | fail)
  go_ret
  exact ⟨x4, c4, rfl, (unhide HP4).own, (unhide HB).trans (unhide HP4).below⟩
section
variable {a g cap : Nat} {l : List Ce} {u : World}
set_option maxHeartbeats 1000000 in
theorem kCells (h : Sk u a g cap l) : Calls Try.prog 13 #[.pointer (some ⟨a, 0, none⟩)] u fun e u' => ∃ xo cc, e = .returned (.slice xo l.length cc) ∧ RC.Own u' u.heap.size l xo cc ∧ Below u.heap.size u u' := by
  have HC := hide (kClone l g cap u h.at h.hm)
  have z0 := S.cell_one h.box
  clear h
  generalize l.length = n at *
  go_enter Try.func13, Try.ntmps13
  go_wp2_with (first
    | (go_at_call 30; refine (unhide HC).mono ?_; rintro e W1 ⟨xo, cc, rfl, ho, hb⟩; have HO := hide ho; have HB := hide hb; clear ho hb)
    | fail)
  go_ret
  exact ⟨xo, cc, rfl, unhide HO, unhide HB⟩
set_option maxHeartbeats 1000000 in
theorem kCopied (h : Sk u a g cap l) : Calls Try.prog 25 #[.pointer (some ⟨a, 0, none⟩)] u fun e u' => ∃ a2 g2 c2, e = .returned (.pointer (some ⟨a2, 0, none⟩)) ∧ Sk u' a2 g2 c2 l ∧ Below u.heap.size u u' ∧ u.heap.size ≤ a2 ∧ u.heap.size ≤ g2 := by
  have HC := hide (kCells h)
  have H3 := hide h.h3
  have HM := hide h.hm
  clear h
  obtain ⟨n, hn⟩ : ∃ n, n = l.length := ⟨_, rfl⟩
  have HN := hide hn
  rw [← hn] at HC
  clear hn
  go_enter Try.func25, Try.ntmps25
  go_wp2_with (first
    | (go_at_call 13; refine (unhide HC).mono ?_; rintro e W1 ⟨xo, cc, rfl, ho, hb⟩; have HO := hide ho; have HB := hide hb; clear ho hb)
    | fail)
  go_ret
  obtain ⟨g2, cs, t, rfl, hg, hr, hh, hc⟩ := own_hol (unhide HO) (unhide H3)
  have hn := unhide HN
  subst hn
  have hx := heap_alloc_new W1 (.cells #[.slice (some ⟨g2, 0, none⟩) l.length cc] 53)
  exact ⟨W1.heap.size, g2, cc, rfl, ⟨hx, ⟨cs, t, heapOld _ hr, hh⟩, by have := (Array.getElem?_eq_some_iff.1 hr).1; omega, unhide H3, unhide HM, hc⟩, (unhide HB).alloc (unhide HB).size _, (unhide HB).size, hg⟩
end
end Go.Proofs.Ytopabadnbelegaa.K
namespace Go.Proofs.Ytopabadnbelegaa.K
open Go.RowKit Go.Lib
open Go.Proofs.Ytopabadnbelegaa.S (Rec)
theorem ceL_inj {a b : Ce} (h : ceL a = ceL b) : a = b := by
  simp only [ceL, List.cons.injEq, Value.int.injEq, true_and, and_true] at h
  obtain ⟨h1, h2, h3⟩ := h
  exact Ce.eq (BitVec.eq_of_toInt_eq h1) (BitVec.eq_of_toNat_eq (by omega)) (BitVec.eq_of_toNat_eq (by omega))
instance : DecidableEq Ce := fun a b => decidable_of_iff (a.c = b.c ∧ a.x = b.x ∧ a.k = b.k) ⟨fun h => Ce.eq h.1 h.2.1 h.2.2, fun h => by subst h; exact ⟨rfl, rfl, rfl⟩⟩
theorem at_ix {w : World} {l : List Ce} {ao : Option Addr} {c : Nat} (h : RC.At w l ao c) (i : Nat) (hi : i < l.length) : ∃ g o, ao = some ⟨g, o, none⟩ ∧
    (∀ W : World, (Instr.indexAt 32 (.slice ao l.length c) (.int .i64 (i : Int))).run Try.prog W = .ok (.pointer (some ⟨g, o + i * 3, none⟩)) W) ∧
    w.cell? ⟨g, o + i * 3, none⟩ = some (.int .i16 l[i].c.toInt) ∧ w.cell? ⟨g, o + i * 3 + 1, none⟩ = some (.int .u64 l[i].x.toNat) ∧ w.cell? ⟨g, o + i * 3 + 2, none⟩ = some (.int .u32 l[i].k.toNat) := by
  obtain ⟨g, o, rfl, h1⟩ := h.get hi
  exact ⟨g, o, rfl, fun W => RC.ix g o l.length c i hi W, h1 0 _ rfl, h1 1 _ rfl, h1 2 _ rfl⟩
theorem neqC (a1 a2 a3 b1 b2 b3 : Int) (u : World) : (binOp .neq 57 (.agg #[.int .i16 a1, .int .u64 a2, .int .u32 a3]) (.agg #[.int .i16 b1, .int .u64 b2, .int .u32 b3])).run Try.prog u = if a1 = b1 then if a2 = b2 then if a3 = b3 then .ok (.bool false) u else .ok (.bool true) u else .ok (.bool true) u else .ok (.bool true) u := by
  go_simp
theorem neqSame (x : Ce) (u : World) : (binOp .neq 57 (.agg #[.int .i16 x.c.toInt, .int .u64 x.x.toNat, .int .u32 x.k.toNat]) (.agg #[.int .i16 x.c.toInt, .int .u64 x.x.toNat, .int .u32 x.k.toNat])).run Try.prog u = .ok (.bool false) u := by
  rw [neqC, if_pos rfl, if_pos rfl, if_pos rfl]
theorem neqDiff {x y : Ce} (h : x ≠ y) (u : World) : (binOp .neq 57 (.agg #[.int .i16 x.c.toInt, .int .u64 x.x.toNat, .int .u32 x.k.toNat]) (.agg #[.int .i16 y.c.toInt, .int .u64 y.x.toNat, .int .u32 y.k.toNat])).run Try.prog u = .ok (.bool true) u := by
  rw [neqC]
  by_cases h1 : x.c.toInt = y.c.toInt
  · rw [if_pos h1]
    by_cases h2 : (x.x.toNat : Int) = (y.x.toNat : Int)
    · rw [if_pos h2]
      by_cases h3 : (x.k.toNat : Int) = (y.k.toNat : Int)
      · exact absurd (Ce.eq (BitVec.eq_of_toInt_eq h1) (BitVec.eq_of_toNat_eq (by omega)) (BitVec.eq_of_toNat_eq (by omega))) h
      · rw [if_neg h3]
    · rw [if_neg h2]
  · rw [if_neg h1]
set_option maxHeartbeats 2000000 in
theorem lSameC (l m : List Ce) (ao bo : Option Addr) (c d : Nat) (u : World) (h : RC.At u l ao c) (k : RC.At u m bo d) : Calls Try.prog 20 #[.slice ao l.length c, .slice bo m.length d] u fun e u' => e = .returned (.bool (decide (l = m))) ∧ ∃ z, u' = u.drewN z := by
  obtain ⟨r, hr⟩ : ∃ r, r = decide (l = m) := ⟨_, rfl⟩
  rw [← hr]
  have HR := hide hr
  clear hr
  obtain ⟨n, hn⟩ : ∃ n, n = l.length := ⟨_, rfl⟩
  obtain ⟨n2, hn2⟩ : ∃ n2, n2 = m.length := ⟨_, rfl⟩
  rw [← hn, ← hn2]
  by_cases he : n = n2
  · subst he
    have HN := hide hn
    have HN2 := hide hn2
    have HH := hide h
    have HK := hide k
    have hnm : (n : Int) ≤ 4398046511000 := by have := h.many; omega
    clear h k hn hn2
    go_enter Try.func20, Try.ntmps20
    go_wp2
    go_loopw [5] (fun s5 wr => ∃ i : Nat, i ≤ n ∧ s5 = .int .i64 (i : Int) ∧ Hid (∀ j (h1 : j < l.length) (h2 : j < m.length), j < i → l[j] = m[j]) ∧ Hid (∃ z, wr = u.drewN z)) (fun s5 _ => n - (intOf s5).toNat)
    case atStart => exact ⟨0, Nat.zero_le _, rfl, fun j _ _ hj => absurd hj (by omega), 0, rfl⟩
    case round =>
      obtain ⟨i, hi, rfl, HE, HZ⟩ := hrel
      by_cases hlt : i < n
      · have hii : (i : Int) < (n : Int) := by omega
        obtain ⟨z, hz⟩ := unhide HZ
        have hA := (unhide HH).below (S.belowDrewN (Below.refl _ _) z)
        have hB := (unhide HK).below (S.belowDrewN (Below.refl _ _) z)
        rw [← hz] at hA hB
        obtain ⟨g1, o1, rfl, ix1, a0, a1, a2⟩ := at_ix hA i (by rw [← unhide HN]; exact hlt)
        obtain ⟨g2, o2, rfl, ix2, b0, b1, b2⟩ := at_ix hB i (by rw [← unhide HN2]; exact hlt)
        rw [← unhide HN] at ix1
        rw [← unhide HN2] at ix2
        have HZ2 := hide hz
        clear hA hB hz HZ
        have HB1 : i < l.length := by rw [← unhide HN]; exact hlt
        have HB2 : i < m.length := by rw [← unhide HN2]; exact hlt
        by_cases hq : l[i] = m[i]
        · have HE2 : Hid (∀ j (h1 : j < l.length) (h2 : j < m.length), j < i + 1 → l[j] = m[j]) := fun j h1 h2 hj => by
            rcases Nat.lt_or_ge j i with h | h
            · exact unhide HE j h1 h2 h
            · obtain rfl : j = i := by omega
              exact hq
          rw [← hq] at b0 b1 b2
          have hne := neqSame l[i]
          generalize l[i] = x at *
          clear hq HB1 HB2
          go_wp2
          go_quiet (first | fail)
          go_wp2
          go_roundw
          case rel => exact ⟨i + 1, by omega, by go_num, HE2, z + nq, by rw [unhide HZ2]; exact World.drewN_drewN ..⟩
          case measure => simp [intOf]; omega
        · have hne := neqDiff hq
          have HD : Hid (¬ l = m) := fun e => hq (by subst e; rfl)
          generalize l[i] = x at *
          generalize m[i] = y at *
          clear hq HB1 HB2
          go_wp2
          go_quiet (first | fail)
          go_wp2
          go_ret
          exact ⟨by rw [unhide HR, decide_eq_false (unhide HD)]; rfl, z + nq, by rw [unhide HZ2]; exact World.drewN_drewN ..⟩
      · obtain rfl : i = n := by omega
        have hii : ¬ (i : Int) < (i : Int) := by omega
        go_wp2
        go_ret
        exact ⟨by rw [unhide HR, decide_eq_true (List.ext_getElem ((unhide HN).symm.trans (unhide HN2)) fun j h1 h2 => unhide HE j h1 h2 (by rw [unhide HN]; exact h1))]; rfl, unhide HZ⟩
  · have HD : Hid (¬ l = m) := fun e => he (by rw [hn, hn2, e])
    have he2 : ¬ (n : Int) = (n2 : Int) := by omega
    clear h k hn hn2
    go_enter Try.func20, Try.ntmps20
    go_wp2
    go_ret
    exact ⟨by rw [unhide HR, decide_eq_false (unhide HD)]; rfl, 0, rfl⟩
end Go.Proofs.Ytopabadnbelegaa.K
