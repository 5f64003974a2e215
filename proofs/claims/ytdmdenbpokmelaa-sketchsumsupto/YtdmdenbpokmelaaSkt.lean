/- Sketches: times, Of. -/
import Derived.Test.YtdmdenbpokmelaaSks
import Derived.Test.YtdmdenbpokmelaaSgl
namespace Go.Proofs.Ytdmdenbpokmelaa.K
open Go.RowKit Go.Lib
open Go.Proofs.Ytdmdenbpokmelaa.S (Rec En El RE plN plN_lt textB)
def itB (e : En) : BV := BitVec.ofNat 64 (itemN e)
theorem itB_n (e : En) : (itB e).toNat = itemN e := by
  unfold itB
  rw [BitVec.toNat_ofNat]
  have := itemN_lt e
  omega
theorem kItemB (x : En) (h1 : x.1.size ≤ 1048576) (h2 : x.2.size ≤ 1048576) (u : World) : Calls Try.prog 14 #[.agg #[.string x.1, .string x.2]] u fun e u' => e = .returned (.int .u64 (itB x).toNat) ∧ Below u.heap.size u u' := by
  rw [itB_n]
  exact kItem x h1 h2 u
theorem at_ixE {w : World} {l : List En} {ao : Option Addr} {c : Nat} (h : RE.At w l ao c) (i : Nat) (hi : i < l.length) : ∃ g o, ao = some ⟨g, o, none⟩ ∧
    (∀ W : World, (Instr.indexAt 40 (.slice ao l.length c) (.int .i64 (i : Int))).run Try.prog W = .ok (.pointer (some ⟨g, o + i * 2, none⟩)) W) ∧
    w.cell? ⟨g, o + i * 2, none⟩ = some (.string l[i].1) ∧ w.cell? ⟨g, o + i * 2 + 1, none⟩ = some (.string l[i].2) := by
  obtain ⟨g, o, rfl, h1⟩ := h.get hi
  exact ⟨g, o, rfl, fun W => RE.ix g o l.length c i hi W, h1 0 _ rfl, h1 1 _ rfl⟩
/-- how often an entry stands there -/
def cnt (l : List En) (x : En) : Nat := @List.count En instBEqOfDecidableEq x l
theorem cnt_nil (x : En) : cnt [] x = 0 := rfl
theorem cnt_snoc (l : List En) (y x : En) : cnt (l ++ [y]) x = cnt l x + if y = x then 1 else 0 := by
  unfold cnt
  rw [@List.count_append, @List.count_singleton]
  congr 1
  by_cases h : y = x
  · subst h; simp
  · rw [if_neg h, if_neg]
    intro e
    exact h (eq_of_beq e)
theorem eqlE (a b : En) (w : World) : (binOp .eql 36 (.agg #[.string a.1, .string a.2]) (.agg #[.string b.1, .string b.2])).run Try.prog w = .ok (.bool (decide (a = b))) w := by
  by_cases h1 : a.1 = b.1
  · by_cases h2 : a.2 = b.2
    · rw [decide_eq_true (Prod.ext h1 h2), h1, h2]
      go_simp
    · rw [decide_eq_false (fun e => h2 (by rw [e]))]
      have h3 : ¬ a.2.toList = b.2.toList := fun e => h2 (S.ba_list e)
      rw [h1]
      go_simp
  · rw [decide_eq_false (fun e => h1 (by rw [e]))]
    have h3 : ¬ a.1.toList = b.1.toList := fun e => h1 (S.ba_list e)
    go_simp
set_option maxRecDepth 100000 in
set_option maxHeartbeats 4000000 in
theorem lTimes (l : List En) (ao : Option Addr) (c : Nat) (x : En) (u : World) (h : RE.At u l ao c) : Calls Try.prog 19 #[.slice ao l.length c, .agg #[.string x.1, .string x.2]] u fun e u' => e = .returned (.int .i64 (cnt l x : Nat)) ∧ Below u.heap.size u u' := by
  obtain ⟨n, hn⟩ : ∃ n, n = l.length := ⟨_, rfl⟩
  have HN := hide hn
  have hnm : (n : Int) ≤ 4398046511000 := by have := h.many; omega
  rw [← hn]
  have HB := hide ((Below.refl u.heap.size u).alloc (Nat.le_refl _) (.cells #[.string x.1, .string x.2] 36))
  have HX := hide (heap_alloc_new u (.cells #[.string x.1, .string x.2] 36))
  have HH := hide (h.below (unhide HB))
  have HEQ := hide (fun (y : En) => eqlE y x)
  obtain ⟨x1, x2⟩ := x
  obtain ⟨R, hR⟩ : ∃ R, R = cnt l (x1, x2) := ⟨_, rfl⟩
  rw [← hR]
  have HR := hide hR
  clear h hn hR
  go_enter Try.func19, Try.ntmps19
  go_wp2
  generalize u.alloc (.cells #[.string x1, .string x2] 36) = U at *
  obtain ⟨p0, p1⟩ := S.box2 (unhide HX)
  go_loopw [5, 6] (fun s5 s6 wr => ∃ i k : Nat, i ≤ n ∧ k ≤ i ∧ s6 = .int .i64 (i : Int) ∧ s5 = .int .i64 (k : Int) ∧ Hid (k = cnt (l.take i) (x1, x2)) ∧ Hid (∃ z, wr = U.drewN z)) (fun _ s6 _ => n - (intOf s6).toNat)
  case atStart => exact ⟨0, 0, Nat.zero_le _, Nat.le_refl _, rfl, rfl, rfl, 0, rfl⟩
  case round =>
    obtain ⟨i, k, hi, hki, rfl, rfl, HK, HZ⟩ := hrel
    obtain ⟨z, hz⟩ := unhide HZ
    have hD := S.belowDrewN (Below.refl U.heap.size U) z
    rw [← hz] at hD
    by_cases hlt : i < n
    · have hii : (i : Int) < (n : Int) := by omega
      have hil : i < l.length := by rw [← unhide HN]; exact hlt
      obtain ⟨g1, o1, rfl, ix1, a0, a1⟩ := at_ixE ((unhide HH).below hD) i hil
      rw [← unhide HN] at ix1
      have b0 : wr.cell? ⟨u.heap.size, 0, none⟩ = some (.string x1) := by rw [hz]; exact p0
      have b1 : wr.cell? ⟨u.heap.size, 1, none⟩ = some (.string x2) := by rw [hz]; exact p1
      have hq := unhide HEQ l[i]
      have HT := hide (List.take_succ_eq_append_getElem hil)
      have HZ2 := hide hz
      generalize l[i] = y at *
      obtain ⟨y1, y2⟩ := y
      clear hil hz hD p0 p1 HZ
      by_cases hxy : (y1, y2) = (x1, x2)
      · rw [decide_eq_true hxy] at hq
        have HK2 : Hid (k + 1 = cnt (l.take (i + 1)) (x1, x2)) := by
          show _ = _
          rw [unhide HT, cnt_snoc, if_pos hxy, ← unhide HK]
        clear hxy
        go_wp2
        go_quiet (first | fail)
        go_wp2
        go_roundw
        case rel => exact ⟨i + 1, k + 1, by omega, by omega, by go_num, by go_num, HK2, z + nq, by rw [unhide HZ2]; exact World.drewN_drewN ..⟩
        case measure => simp [intOf]; omega
      · rw [decide_eq_false hxy] at hq
        have HK2 : Hid (k = cnt (l.take (i + 1)) (x1, x2)) := by
          show _ = _
          rw [unhide HT, cnt_snoc, if_neg hxy, ← unhide HK]; rfl
        clear hxy
        go_wp2
        go_quiet (first | fail)
        go_wp2
        go_roundw
        case rel => exact ⟨i + 1, k, by omega, by omega, by go_num, rfl, HK2, z + nq, by rw [unhide HZ2]; exact World.drewN_drewN ..⟩
        case measure => simp [intOf]; omega
    · have hii : ¬ (i : Int) < (n : Int) := by omega
      have HKR : Hid (k = R) := by
        show _ = _
        rw [unhide HK, unhide HR, List.take_of_length_le (by rw [← unhide HN]; omega)]
      have HBE := hide ((unhide HB).trans (hD.mono (unhide HB).size))
      clear hz hD HZ
      go_wp2
      go_ret
      exact ⟨by rw [← unhide HKR]; rfl, unhide HBE⟩
set_option maxRecDepth 100000 in
set_option maxHeartbeats 4000000 in
theorem kOf (l : List En) (ao : Option Addr) (c n : Nat) (h3 : 3 ≤ n) (hm : n ≤ 256) (hsz : ∀ e ∈ l, e.1.size ≤ 1048576 ∧ e.2.size ≤ 1048576) (u : World) (h : RE.At u l ao c) : Calls Try.prog 18 #[.slice ao l.length c, .int .i64 (n : Int)] u fun e u' => ∃ a g, e = .returned (.tuple #[.pointer (some ⟨a, 0, none⟩), .int .i64 0]) ∧ Sk u' a g n (adds (zerL n) (l.map itB)) ∧ Below u.heap.size u u' ∧ u.heap.size ≤ a ∧ u.heap.size ≤ g := by
  obtain ⟨m, hml⟩ : ∃ m, m = l.length := ⟨_, rfl⟩
  have HN := hide (kNew n h3 hm u)
  have HML := hide hml
  have hmm : (m : Int) ≤ 4398046511000 := by have := h.many; omega
  have HH := hide h
  have HZ := hide hsz
  have HI := hide (fun (e : En) (he : e ∈ l) w => kItemB e (hsz e he).1 (hsz e he).2 w)
  rw [← hml]
  obtain ⟨B, hB⟩ : ∃ B, B = u.heap.size := ⟨_, rfl⟩
  rw [← hB] at HN ⊢
  have HB := hide hB
  clear h h3 hm hsz hml hB
  go_enter Try.func18, Try.ntmps18
  go_wp2_with (first
    | (go_at_call 12; refine (unhide HN).mono ?_; rintro e W1 ⟨a, g, rfl, hs, hb, h1, h2⟩; have HS1 := hide hs; have HB1 := hide hb; have HA := hide h1; have HG := hide h2; clear hs hb h1 h2 HN)
    | fail)
  rw [← adds_nil (zerL n)] at HS1
  go_loopw [20] (fun s20 wr => ∃ i : Nat, i ≤ m ∧ s20 = .int .i64 (i : Int) ∧ Hid (Sk wr a g n (adds (zerL n) ((l.take i).map itB))) ∧ Hid (Below B u wr)) (fun s20 _ => m - (intOf s20).toNat)
  case atStart => exact ⟨0, Nat.zero_le _, rfl, HS1, HB1⟩
  case round =>
    clear HS1 HB1
    obtain ⟨i, hi, rfl, HS, HBW⟩ := hrel
    by_cases hlt : i < m
    · have hii : (i : Int) < (m : Int) := by omega
      have hil : i < l.length := by rw [← unhide HML]; exact hlt
      obtain ⟨g1, o1, rfl, ix1, a0, a1⟩ := at_ixE ((unhide HH).below (by have hb := unhide HBW; rw [unhide HB] at hb; exact hb)) i hil
      rw [← unhide HML] at ix1
      have HIT := hide (fun w => unhide HI l[i] (List.getElem_mem hil) w)
      have HNX : Hid (adds (zerL n) ((l.take (i + 1)).map itB) = layB (adds (zerL n) ((l.take i).map itB)) (itB l[i]) 1) := by
        show _ = _
        rw [List.take_succ_eq_append_getElem hil, List.map_append, List.map_singleton, adds_snoc]
      generalize l[i] = y at *
      generalize itB y = x at *
      obtain ⟨y1, y2⟩ := y
      have HXA := hide ((Below.refl wr.heap.size wr).alloc (Nat.le_refl _) (.cells #[.string y1, .string y2] 36))
      have HSA := hide ((unhide HS).below (unhide HXA))
      have HBA : Hid (Below B u (wr.alloc (.cells #[.string y1, .string y2] 36))) := (unhide HBW).trans ((unhide HXA).mono (by rw [unhide HB]; exact (unhide HBW).size))
      clear hil
      go_wp2_with (first
        | (go_at_call 14; refine (unhide HIT _).mono ?_; rintro e W2 ⟨rfl, hb⟩; have HB2 : Hid (Below B u W2) := ((unhide HBA).trans (hb.mono (by rw [unhide HB]; exact (unhide HBA).size))); have HAD := hide (kAdd x ((unhide HSA).below hb)); clear hb HIT)
        | (go_at_call 8; refine (unhide HAD).mono ?_; rintro e W3 ⟨rfl, ha, hs⟩; have HS3 := hide hs; have HB3 := hide ((unhide HB2).trans (ha.below (unhide HG) (by rw [unhide HB]; exact (unhide HB2).size))); clear ha hs HAD)
        | fail)
      go_roundw
      case rel => exact ⟨i + 1, by omega, by go_num, by rw [unhide HNX]; exact HS3, HB3⟩
      case measure => simp [intOf]; omega
    · have hii : ¬ (i : Int) < (m : Int) := by omega
      have HSE : Hid (Sk wr a g n (adds (zerL n) (l.map itB))) := by
        have h1 := unhide HS
        rw [List.take_of_length_le (by rw [← unhide HML]; omega)] at h1
        exact h1
      go_wp2
      go_ret2
      exact ⟨a, rfl, g, unhide HSE, unhide HBW, unhide HA, unhide HG⟩
end Go.Proofs.Ytdmdenbpokmelaa.K
