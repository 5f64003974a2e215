/- A tally's counts, set. -/
import Derived.Test.YtpepgealeanecaaGm
namespace Go.Proofs.Ytpepgealeanecaa
open Go.RowKit Go.Lib
theorem kIsRep (n : Int) (w : World) : Calls Try.prog 55 #[.int .i64 n] w fun e w' => e = .returned (.bool (decide (1 ≤ n ∧ n ≤ 5))) ∧ w' = w := by
  by_cases h1 : 1 ≤ n
  · by_cases h2 : n ≤ 5
    · rw [decide_eq_true ⟨h1, h2⟩]
      have q1 : ¬ n < 1 := by omega
      have q2 : ¬ 5 < n := by omega
      go_enter Try.func55, Try.ntmps55
      go_wp2
      go_ret
      exact ⟨rfl, rfl⟩
    · rw [decide_eq_false (fun h => h2 h.2)]
      have q1 : ¬ n < 1 := by omega
      have q2 : 5 < n := by omega
      go_enter Try.func55, Try.ntmps55
      go_wp2
      go_ret
      exact ⟨rfl, rfl⟩
  · rw [decide_eq_false (fun h => h1 h.1)]
    have q1 : n < 1 := by omega
    go_enter Try.func55, Try.ntmps55
    go_wp2
    go_ret
    exact ⟨rfl, rfl⟩
/-- a tally with a replica's counts set; of no replica nothing is -/
def setT (ta : List Nat) (r x y : Nat) : List Nat := if 1 ≤ r ∧ r ≤ 5 then (ta.set (2 * (r - 1)) x).set (2 * (r - 1) + 1) y else ta
theorem setT_len (ta : List Nat) (r x y : Nat) : (setT ta r x y).length = ta.length := by unfold setT; split <;> simp
theorem setT_bd {ta : List Nat} (h : ∀ v ∈ ta, v < 65536) {r x y : Nat} (hx : x < 65536) (hy : y < 65536) : ∀ v ∈ setT ta r x y, v < 65536 := by
  unfold setT
  split
  · intro v hv
    rcases List.mem_or_eq_of_mem_set hv with hv | rfl
    · rcases List.mem_or_eq_of_mem_set hv with hv | rfl
      · exact h v hv
      · exact hx
    · exact hy
  · exact h
/-- a tally in a variable of its own -/
structure Tb (w : World) (T : Nat) (ta : List Nat) : Prop where
  row : w.heap[T]? = some (.cells (taC ta).toArray 75 (0, 0))
  len : ta.length = 10
theorem Tb.there {w : World} {T : Nat} {ta : List Nat} (h : Tb w T ta) {o j : Nat} (hn : o + j ≤ 10) : w.there T o j := fun i hi => by
  have hl : (taC ta).length = 10 := by rw [taC_len, h.len]
  refine ⟨?_, by simp [World.frozen?, h.row]⟩
  simp only [World.cell?, h.row, List.getElem?_toArray]
  rw [List.getElem?_eq_getElem (by omega)]
  rfl
theorem setCells2 (w : World) (T o : Nat) (u v : Value) : w.setCells T o [u, v] = (w.setCell ⟨T, o, none⟩ u).setCell ⟨T, o + 1, none⟩ v := rfl
theorem Tb.set {w : World} {T : Nat} {ta : List Nat} (h : Tb w T ta) (o x y : Nat) : Tb (w.setCells T o [.int .u16 (x : Int), .int .u16 (y : Int)]) T ((ta.set o x).set (o + 1) y) := by
  refine ⟨?_, by simp [h.len]⟩
  rw [setCells2]
  have h1 := heapCell_same h.row o (.int .u16 (x : Int))
  have h2 := heapCell_same h1 (o + 1) (.int .u16 (y : Int))
  rw [h2]
  congr 2
  simp [taC, List.map_set]
theorem wpList_store_ct_mid {ops : Array Oper} {rest : List Oper} {o : Oper} {a : Act} {w : World} {Q : Exit → Act → World → Prop} (hgd : o.guard = none) (x y : Operand) (ho : o.op = .store 73 x y) (hd : o.dst = none) (g q : Nat) (u v : Int) (hx : a.eval x = .pointer (some ⟨g, q, none⟩)) (hy : a.eval y = .agg #[.int .u16 u, .int .u16 v]) (ht : w.there g q 2)
    (h : wpList Try.prog ops Q rest a (w.setCells g q [.int .u16 u, .int .u16 v])) : wpList Try.prog ops Q (o :: rest) a w :=
  wpList_store_mid hgd 73 x y ho g q #[.int .u16 u, .int .u16 v] hx hy ht ctInfo (ct_all _ _) (by rw [hd]; exact h)
set_option maxRecDepth 100000 in
set_option maxHeartbeats 2000000 in
theorem lSet (ta : List Nat) (T r x y : Nat) (u : World) (h : Tb u T ta) : Calls Try.prog 92 #[.pointer (some ⟨T, 0, none⟩), .int .i64 (r : Int), .int .u16 (x : Int), .int .u16 (y : Int)] u fun e u' => e = .returned (.tuple #[]) ∧ Tb u' T (setT ta r x y) ∧ (∀ B v, B ≤ T → Below B v u → Below B v u') ∧ (∀ i, i ≠ T → u'.heap[i]? = u.heap[i]?) ∧ u'.heap.size = u.heap.size := by
  have HR := hide (kIsRep (r : Int))
  have HT := hide h
  clear h
  by_cases hr : 1 ≤ r ∧ r ≤ 5
  · rw [decide_eq_true (by omega)] at HR
    have hs : setT ta r x y = (ta.set (2 * (r - 1)) x).set (2 * (r - 1) + 1) y := if_pos hr
    rw [hs]
    have hw : wrap64 ((r : Int) - 1) = ((r - 1 : Nat) : Int) := by simp only [wrap64]; omega
    have hix := ixT1 T (r - 1) (by omega)
    have HTH : Hid (u.there T (2 * (r - 1)) 2) := (unhide HT).there (by omega)
    have HTS := hide ((unhide HT).set (2 * (r - 1)) x y)
    have HKB : Hid (∀ (B : Nat) (v : World) (a b : Value), B ≤ T → Below B v u → Below B v (u.setCells T (2 * (r - 1)) [a, b])) := fun B v a b hB hb => by rw [setCells2]; exact belowCell (belowCell hb hB _) hB _
    have HKO : Hid (∀ (i : Nat) (a b : Value), i ≠ T → (u.setCells T (2 * (r - 1)) [a, b]).heap[i]? = u.heap[i]?) := fun i a b hi => by rw [setCells2]; exact (Deep.blk_setCell_other _ ⟨T, _, none⟩ _ i hi).trans (Deep.blk_setCell_other _ ⟨T, _, none⟩ _ i hi)
    have HKS : Hid (∀ (a b : Value), (u.setCells T (2 * (r - 1)) [a, b]).heap.size = u.heap.size) := fun a b => by rw [setCells2]; simp [World.setCell]
    generalize 2 * (r - 1) = oo at *
    generalize r - 1 = q at *
    clear hr hs
    go_enter Try.func92, Try.ntmps92
    go_wp2_with (first
      | (go_at_call 55; refine (unhide HR _).mono ?_; rintro e w1 ⟨rfl, hw1⟩; obtain rfl := hw1.symm)
      | ((with_reducible refine wpList_store_ct_mid (by rfl) (.tmp 17) (.tmp 15) (by rfl) (by rfl) T oo (x : Int) (y : Int) (by with_unfolding_all rfl) (by with_unfolding_all rfl) (unhide HTH) ?_))
      | fail)
    go_returns
    exact ⟨rfl, unhide HTS, fun B v hB hb => unhide HKB B v _ _ hB hb, fun i hi => unhide HKO i _ _ hi, unhide HKS _ _⟩
  · rw [decide_eq_false (by omega)] at HR
    have hs : setT ta r x y = ta := if_neg hr
    rw [hs]
    clear hr hs
    go_enter Try.func92, Try.ntmps92
    go_wp2_with (first
      | (go_at_call 55; refine (unhide HR _).mono ?_; rintro e w1 ⟨rfl, hw1⟩; obtain rfl := hw1.symm)
      | fail)
    go_returns
    exact ⟨rfl, unhide HT, fun _ _ _ hb => hb, fun _ _ => rfl, rfl⟩
end Go.Proofs.Ytpepgealeanecaa
