/- Segments: the document's Take; Put and Take in plain words. Written by mksgz.py. -/
import Derived.Test.YtbahlfpcbplofaaSgw
namespace Go.Proofs.Ytbahlfpcbplofaa.S
open Go.RowKit Go.Lib
theorem Ok.pair {l : List En} {wd : Int} (h : Ok l wd) : l.Pairwise (fun x y => lt x.1 y.1 = true) := List.pairwise_iff_getElem.2 fun _ _ _ hj hij => h.rise' hij hj
theorem li_pair {l : List En} (h : liB l = true) : l.Pairwise (fun x y => lt x.1 y.1 = true) := by
  rcases li_ok h with h0 | ⟨wd, h1⟩
  · subst h0; exact List.Pairwise.nil
  · exact h1.pair
/-- is it not this key -/
def nk (k : ByteArray) (e : En) : Bool := !decide (e.1 = k)
theorem tak_all : ∀ a : List En, taks (a.map fun x => (x.1, some x, none)) = a
  | [] => rfl
  | x :: a => by
    have h1 := tak_all a
    unfold taks at *
    rw [List.map_cons, List.flatMap_cons, h1]
    rfl
theorem put_all : ∀ a : List En, puts (a.map fun x => (x.1, some x, none)) = a
  | [] => rfl
  | x :: a => by
    have h1 := put_all a
    unfold puts at *
    rw [List.map_cons, List.flatMap_cons, h1]
    rfl
theorem nk_all {k : ByteArray} {a : List En} (h : ∀ y ∈ a, lt k y.1 = true) : a.filter (nk k) = a :=
  List.filter_eq_self.2 fun y hy => by
    unfold nk
    rw [decide_eq_false (fun e => lt_ne (h y hy) e.symm)]; rfl
theorem taks_eq (k : ByteArray) : ∀ l : List En, l.Pairwise (fun x y => lt x.1 y.1 = true) → taks (mgS l [k]) = l.filter (nk k)
  | [], _ => by unfold mgS; rw [mrg_l]; rfl
  | x :: a, h => by
    have ih := taks_eq k a (List.pairwise_cons.1 h).2
    have hx := (List.pairwise_cons.1 h).1
    unfold mgS at *
    by_cases h1 : lt x.1 k = true
    · rw [mrg_lt h1, List.filter_cons_of_pos (by unfold nk; rw [decide_eq_false (lt_ne h1)]; rfl), ← ih]; rfl
    · rw [Bool.not_eq_true] at h1
      by_cases h2 : lt k x.1 = true
      · rw [mrg_gt h2, mrg_r]
        rw [nk_all (fun y hy => by
          rcases List.mem_cons.1 hy with rfl | hy
          · exact h2
          · exact lt_trans h2 (hx y hy))]
        exact tak_all (x :: a)
      · rw [Bool.not_eq_true] at h2
        have he : x.1 = k := lt_total h1 h2
        rw [mrg_eq (f := Prod.fst) (g := fun k => k) he, mrg_r, List.filter_cons_of_neg (by unfold nk; rw [decide_eq_true he]; decide), nk_all (fun y hy => by rw [← he]; exact hx y hy)]
        exact tak_all a
/-- is there an entry of this key -/
def hk (k : ByteArray) (l : List En) : Bool := l.any fun e => decide (e.1 = k)
theorem hk_len (k : ByteArray) : ∀ l : List En, (l.filter (nk k)).length = l.length ↔ hk k l = false
  | [] => by simp [hk]
  | x :: l => by
    have ih := hk_len k l
    have hle : (l.filter (nk k)).length ≤ l.length := List.length_filter_le _ _
    by_cases h : x.1 = k
    · rw [List.filter_cons_of_neg (by unfold nk; rw [decide_eq_true h]; decide)]
      unfold hk
      rw [List.any_cons, decide_eq_true h, List.length_cons]
      exact ⟨fun hh => by omega, fun hh => by simp at hh⟩
    · rw [List.filter_cons_of_pos (by unfold nk; rw [decide_eq_false h]; rfl)]
      unfold hk at *
      rw [List.any_cons, decide_eq_false h, List.length_cons, List.length_cons, Bool.false_or, ← ih]
      omega
theorem takV_eq {l : List En} {k : ByteArray} (h : liB l = true) : takV l k = if hk k l = true then (l.filter (nk k), true) else ([], false) := by
  unfold takV
  rw [if_pos h, taks_eq k l (li_pair h)]
  by_cases h1 : hk k l = true
  · rw [if_pos h1, if_neg (fun hh => by rw [(hk_len k l).1 hh] at h1; cases h1)]
  · rw [if_neg h1, if_pos ((hk_len k l).2 (by simpa using h1))]
theorem filter_next {l : List En} {i : Nat} (hi : i < l.length) {k : ByteArray} (h : l[i].1 ≠ k) : (l.take (i + 1)).filter (nk k) = (l.take i).filter (nk k) ++ [l[i]] := by
  rw [List.take_succ_eq_append_getElem hi, List.filter_append, List.filter_cons_of_pos (by unfold nk; rw [decide_eq_false h]; rfl), List.filter_nil]
theorem filter_skip {l : List En} {i : Nat} (hi : i < l.length) {k : ByteArray} (h : l[i].1 = k) : (l.take (i + 1)).filter (nk k) = (l.take i).filter (nk k) := by
  rw [List.take_succ_eq_append_getElem hi, List.filter_append, List.filter_cons_of_neg (by unfold nk; rw [decide_eq_true h]; decide), List.filter_nil, List.append_nil]
theorem hk_next {l : List En} {i : Nat} (hi : i < l.length) {k : ByteArray} (h : l[i].1 ≠ k) : hk k (l.take (i + 1)) = hk k (l.take i) := by
  unfold hk
  rw [List.take_succ_eq_append_getElem hi, List.any_append, List.any_cons, decide_eq_false h]; simp
theorem hk_skip {l : List En} {i : Nat} (hi : i < l.length) {k : ByteArray} (h : l[i].1 = k) : hk k (l.take (i + 1)) = true := by
  unfold hk
  rw [List.take_succ_eq_append_getElem hi, List.any_append, List.any_cons, decide_eq_true h]; simp
set_option maxRecDepth 100000 in
set_option maxHeartbeats 4000000 in
theorem qTake (l : List En) (ao : Option Addr) (n c : Nat) (k : ByteArray) (u : World) (h : El u l ao n c) (dl : List En) (r : Bool) (hv : takV l k = (dl, r)) : Calls Try.prog 35 #[.slice ao n c, .string k] u fun e u' => ∃ xo m cc, e = .returned (.tuple #[.slice xo m cc, .bool r]) ∧ m = dl.length ∧ RE.Own u' u.heap.size dl xo cc ∧ Below u.heap.size u u' := by
  have HH := hide h
  have hnf := h.few
  have hni : (n : Int) ≤ 4398046511000 := by omega
  have HRN := hide h.hn
  have HL1 := hide (qList l ao n c u h)
  by_cases h1 : liB l = true
  · rw [h1] at HL1
    rw [takV_eq h1] at hv
    have HV := hide hv
    have HLL : Hid (∀ (i : Nat) (e : En), i < l.length → (((l.take i).filter (nk k)).length + [e].length) * 32 ≤ 140737488355328) := fun i e hi => by
      have h1 : ((l.take i).filter (nk k)).length ≤ (l.take i).length := List.length_filter_le _ _
      rw [List.length_take] at h1
      have h2 := h.many
      rw [List.length_singleton]; omega
    clear h h1 hv hnf
    go_enter Try.func35, Try.ntmps35
    go_wp2_with (first
      | (go_at_call 50; refine (unhide HL1).mono ?_; rintro e W1 ⟨rfl, hb⟩; have HB1 := hide hb; clear hb)
      | fail)
    go_loopw [6, 7, 8] (fun so st si wr => ∃ (i m cc : Nat) (xo : Option Addr) (th : Bool), i ≤ n ∧ si = .int .i64 i ∧ st = .bool th ∧ so = .slice xo m cc ∧ Hid (th = hk k (l.take i)) ∧ Hid (m = ((l.take i).filter (nk k)).length) ∧ Hid (RE.Own wr u.heap.size ((l.take i).filter (nk k)) xo cc) ∧ Hid (Below u.heap.size u wr)) (fun _ _ si _ => n - (intOf si).toNat)
    case atStart => exact ⟨0, 0, 0, none, false, Nat.zero_le _, rfl, rfl, rfl, rfl, by rw [List.take_zero, List.filter_nil]; rfl, by rw [List.take_zero, List.filter_nil]; exact Rec.Own.none _ _, unhide HB1⟩
    case round =>
      clear HB1
      obtain ⟨i, m, cc, xo, th, hin, rfl, rfl, rfl, HTH, HML, HO, HI⟩ := hrel
      by_cases hlt : i < n
      · have hii : (i : Int) < (n : Int) := by omega
        have hil : i < l.length := by rw [← unhide HRN]; exact hlt
        obtain ⟨g, o, hao, c1, c2⟩ := ((unhide HH).below (unhide HI)).en hil
        have hix := ixE g o n c i hlt
        by_cases hit : l[i].1 = k
        · have HN := hide (filter_skip hil hit)
          have HN' := hide (hk_skip hil hit)
          rw [hao] at *
          generalize l[i] = x at *
          obtain ⟨xk, xs⟩ := x
          have c1 : wr.cell? ⟨g, o + i * 2, none⟩ = some (.string xk) := c1
          have hq : (xk.toList == k.toList) = true := by rw [ba_beq]; exact decide_eq_true hit
          clear c2 hit
          generalize o + i * 2 = oo at *
          go_wp2
          go_roundw
          case rel => exact ⟨i + 1, m, cc, xo, true, by omega, by go_num, rfl, rfl, (unhide HN').symm, by rw [unhide HN]; exact unhide HML, by rw [unhide HN]; exact unhide HO, unhide HI⟩
          case measure => simp [intOf]; omega
        · have HN := hide (filter_next hil hit)
          have HN' := hide (hk_next hil hit)
          have HL1 := hide (unhide HLL i l[i] hil)
          rw [hao] at *
          generalize l[i] = x at *
          obtain ⟨xk, xs⟩ := x
          have c1 : wr.cell? ⟨g, o + i * 2, none⟩ = some (.string xk) := c1
          have c2 : wr.cell? ⟨g, o + i * 2 + 1, none⟩ = some (.string xs) := c2
          have hq : (xk.toList == k.toList) = false := by rw [ba_beq]; exact decide_eq_false hit
          clear hit
          generalize o + i * 2 = oo at *
          generalize (l.take i).filter (nk k) = acc at *
          have HO3 : Hid (RE.Own (wr.alloc (.cells #[.string xk, .string xs] 43)) u.heap.size acc xo cc) := (unhide HO).below ((Below.refl _ _).alloc (Nat.le_refl _) _)
          have HA3 : Hid (RE.At (wr.alloc (.cells #[.string xk, .string xs] 43)) [(xk, xs)] (some ⟨wr.heap.size, 0, none⟩) 1) := RE.one wr (xk, xs) _
          have HS3 : Hid (u.heap.size ≤ (wr.alloc (.cells #[.string xk, .string xs] 43)).heap.size) := Nat.le_trans (unhide HI).size (szNew wr _)
          go_wp2_with (first
            | (at_builtin; (with_reducible refine wpList_putE (by rfl) (.tmp 25) (.tmp 30) (by rfl) (some 31) (by rfl) u.heap.size acc [(xk, xs)] m 1 (unhide HML) rfl xo (some ⟨wr.heap.size, 0, none⟩) cc 1 (by with_unfolding_all rfl) (by with_unfolding_all rfl) (unhide HO3) (unhide HA3) (unhide HL1) (unhide HS3) ?_); intro x4 n4 c4 W4 HP4; simp only [Act.put, List.setIfInBounds_toArray, List.set_cons_zero, List.set_cons_succ]; have HB4 : Hid (Below u.heap.size u W4) := ((unhide HI).alloc (unhide HI).size _).trans (unhide HP4).below)
            | fail)
          go_roundw
          case rel => exact ⟨i + 1, n4, c4, x4, th, by omega, by go_num, rfl, rfl, (unhide HTH).trans (unhide HN').symm, by rw [unhide HN]; exact (unhide HP4).len, by rw [unhide HN]; exact (unhide HP4).own, unhide HB4⟩
          case measure => simp [intOf]; omega
      · obtain rfl : i = n := by omega
        have hki : ¬ (i : Int) < (i : Int) := by omega
        have h2 : l.take i = l := List.take_of_length_le (by rw [unhide HRN]; exact Nat.le_refl _)
        rw [h2] at HTH HML HO
        have h3 := unhide HV
        rw [← unhide HTH] at h3
        clear h2 HV HTH
        cases th
        · rw [if_neg (by decide)] at h3
          have HD := hide (Prod.mk.inj h3).1
          obtain rfl : r = false := (Prod.mk.inj h3).2.symm
          clear h3
          go_wp2
          go_ret2
          exact ⟨none, 0, 0, rfl, by rw [← unhide HD]; rfl, by rw [← unhide HD]; exact Rec.Own.none _ _, unhide HI⟩
        · rw [if_pos rfl] at h3
          have HD := hide (Prod.mk.inj h3).1
          obtain rfl : r = true := (Prod.mk.inj h3).2.symm
          clear h3
          go_wp2
          go_ret2
          exact ⟨xo, m, cc, rfl, by rw [← unhide HD]; exact unhide HML, by rw [← unhide HD]; exact unhide HO, unhide HI⟩
  · rw [Bool.not_eq_true] at h1
    rw [h1] at HL1
    unfold takV at hv
    rw [if_neg (by rw [h1]; decide)] at hv
    cases hv
    clear h1 h
    go_enter Try.func35, Try.ntmps35
    go_wp2_with (first
      | (go_at_call 50; refine (unhide HL1).mono ?_; rintro e W1 ⟨rfl, hb⟩; have HB1 := hide hb; clear hb)
      | fail)
    go_ret2
    exact ⟨none, 0, 0, rfl, rfl, Rec.Own.none _ _, unhide HB1⟩
end Go.Proofs.Ytbahlfpcbplofaa.S
