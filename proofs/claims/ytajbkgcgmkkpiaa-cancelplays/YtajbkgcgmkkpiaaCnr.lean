/- What the law reckons: seat, above; events. -/
import Derived.Test.YtajbkgcgmkkpiaaCnq
namespace Go.Proofs.Ytajbkgcgmkkpiaa.C
open Go.RowKit Go.Lib
theorem tmod_emod (i : Int) (n : Nat) : (if i.tmod ((n : Int) + 1) < 0 then i.tmod ((n : Int) + 1) + n + 1 else i.tmod ((n : Int) + 1)) = i % ((n : Int) + 1) := by
  have h0 : (0 : Int) < (n : Int) + 1 := by omega
  have h1 := Int.emod_nonneg i (Int.ne_of_gt h0)
  have h2 := Int.emod_lt_of_pos i h0
  rw [Int.tmod_eq_emod]
  split <;> split <;> omega
theorem kSeat (i : Int) (n : Nat) (hn : n < 6000000000000) (w : World) : Calls Try.prog 17 #[.int .i64 i, .int .i64 (n : Int)] w fun e w' => e = .returned (.int .i64 (i % ((n : Int) + 1))) ∧ w' = w := by
  have h0 : (0 : Int) < (n : Int) + 1 := by omega
  have h1 := Int.emod_nonneg i (Int.ne_of_gt h0)
  have h2 := Int.emod_lt_of_pos i h0
  have ht := tmod_emod i n
  have hw1 : wrap64 ((n : Int) + 1) = (n : Int) + 1 := by simp only [wrap64]; omega
  have hm0 : ¬ (n : Int) + 1 = 0 := by omega
  have htb : -((n : Int) + 1) < i.tmod ((n : Int) + 1) ∧ i.tmod ((n : Int) + 1) < (n : Int) + 1 := by
    rw [Int.tmod_eq_emod]
    split <;> omega
  obtain ⟨t, htm⟩ : ∃ t : Int, i.tmod ((n : Int) + 1) = t := ⟨_, rfl⟩
  rw [htm] at htb ht
  have hwt : wrap64 t = t := by simp only [wrap64]; omega
  by_cases hneg : t < 0
  · rw [if_pos hneg] at ht
    have hw2 : wrap64 (t + n) = t + n := by simp only [wrap64]; omega
    have hw3 : wrap64 (wrap64 (t + n) + 1) = i % ((n : Int) + 1) := by rw [hw2]; simp only [wrap64]; omega
    have HW := hide hw3
    clear ht h0 h1 h2 htb hw2 hw3
    go_enter Try.func17, Try.ntmps17
    go_wp2
    go_ret
    refine ⟨?_, rfl⟩
    show Ending.returned (.int .i64 (wrap64 (wrap64 (t + n) + 1))) = _
    rw [unhide HW]
  · rw [if_neg hneg] at ht
    rw [← ht]
    clear ht h0 h1 h2 htb
    go_enter Try.func17, Try.ntmps17
    go_wp2
    go_ret
    exact ⟨rfl, rfl⟩
theorem abN_zero (up : Nat → Nat) (t : Nat) : abN up t 0 = false := by cases t <;> rfl
theorem abN_step {up : Nat → Nat} {t k : Nat} (hu : ∀ j, j ≤ k → up j ≤ j) : abN up t (k + 1) = (decide (k + 1 = t) || abN up t (up k)) := by
  cases t with
  | zero => simp [abN]
  | succ t =>
    show anc up t k = _
    cases h : up k with
    | zero => rw [anc_root h, abN_zero]; by_cases e : k = t <;> simp [e]
    | succ p => rw [anc_step hu h]; show _ = (_ || anc up t p); by_cases e : k = t <;> simp [e]
theorem abN_congr {up up' : Nat → Nat} {t k : Nat} (hu : ∀ j, j < k → up j ≤ j) (he : ∀ j, j < k → up' j = up j) : abN up' t k = abN up t k := by
  cases k with
  | zero => rw [abN_zero, abN_zero]
  | succ k =>
    cases t with
    | zero => rfl
    | succ t => exact anc_congr k (fun j hj => hu j (by omega)) (fun j hj => he j (by omega))
/-- the law's list of who is above whom -/
def overL (up : Nat → Nat) (n : Nat) : List Int := 0 :: (List.range n).map (fun j => (up j : Int))
theorem overL_len (up : Nat → Nat) (n : Nat) : (overL up n).length = n + 1 := by simp [overL]
theorem overL_get (up : Nat → Nat) (n k : Nat) (h : k + 1 < (overL up n).length) : (overL up n)[k + 1] = (up k : Int) := by simp [overL]
theorem overL_more (up up' : Nat → Nat) (n : Nat) (he : ∀ j, j < n → up' j = up j) : overL up n ++ [(up' n : Int)] = overL up' (n + 1) := by
  simp only [overL, List.range_succ, List.map_append, List.map_cons, List.map_nil, List.cons_append]
  congr 2
  exact List.map_congr_left fun j hj => by rw [he j (List.mem_range.1 hj)]
/-- the law's list of the tokens -/
def allL (G : Geo) (n : Nat) : List (Option Nat) := none :: (List.range n).map (fun j => some (G.tb j))
theorem allL_len (G : Geo) (n : Nat) : (allL G n).length = n + 1 := by simp [allL]
theorem allL_get (G : Geo) (n k : Nat) (h : k < (allL G n).length) : ptO (allL G n)[k] = tkP G k := by
  cases k with
  | zero => rfl
  | succ k => simp [allL]; rfl
theorem allL_more (G : Geo) (n tb kb lb ch up : Nat) : allL G n ++ [some tb] = allL (G.ext n tb kb lb ch up) (n + 1) := by
  simp only [allL, List.range_succ, List.map_append, List.map_cons, List.map_nil, List.cons_append]
  rw [ext_self.1]
  congr 2
  exact List.map_congr_left fun j hj => by rw [ext_tb (List.mem_range.1 hj)]
theorem kAbove (up : Nat → Nat) (n : Nat) (hu : ∀ j, j < n → up j ≤ j) (hn : n < 6000000000000) {B c : Nat} {ao : Option Addr} (t : Nat) (W : World) (ho : IR.Own W B (overL up n) ao c) (k : Nat) (hk : k ≤ n) :
    Calls Try.prog 18 #[.slice ao (n + 1) c, .int .i64 (t : Int), .int .i64 (k : Int)] W fun e w' => e = .returned (.bool (abN up t k)) ∧ w' = W := by
  have HU := hide hu
  have HO := hide ho
  obtain ⟨m, hm⟩ : ∃ m, m = n + 1 := ⟨_, rfl⟩
  rw [← hm]
  have HM := hide hm
  have HN := hide hn
  have HK := hide hk
  obtain ⟨r, hr⟩ : ∃ r, r = abN up t k := ⟨_, rfl⟩
  rw [← hr]
  have HR := hide hr
  clear hu ho hm hn hk hr
  go_enter Try.func18, Try.ntmps18
  go_wp2
  go_loopw [2] (fun s2 wr => ∃ j : Nat, j ≤ n ∧ s2 = .int .i64 (j : Int) ∧ Hid (abN up t j = r) ∧ wr = W) (fun s2 _ => (intOf s2).toNat)
  case atStart => exact ⟨k, unhide HK, rfl, (unhide HR).symm, rfl⟩
  case round =>
    obtain ⟨j, hj, rfl, HJ, rfl⟩ := hrel
    cases j with
    | zero =>
      have hrf : r = false := by rw [← unhide HJ, abN_zero]
      subst hrf
      go_wp2
      go_ret
      exact ⟨rfl, rfl⟩
    | succ i =>
      obtain ⟨q, hq⟩ : ∃ q, q = i + 1 := ⟨_, rfl⟩
      have hst := abN_step (t := t) (k := i) (fun j hj' => unhide HU j (by omega))
      rw [unhide HJ] at hst
      obtain ⟨g, rfl, hc, hcp⟩ := own_get (unhide HO) (i := i + 1) (by rw [overL_len]; omega)
      have hc0 := hc 0 _ rfl
      rw [overL_get up n i] at hc0
      have hc1 : wr.cell? ⟨g, q, none⟩ = some (.int .i64 (up i : Int)) := by
        rw [hq]
        have e : (i + 1) * IR.n + 0 = i + 1 := by show (i + 1) * 1 + 0 = i + 1; omega
        rw [e] at hc0
        exact hc0
      have hix := fun w => IR.ix (P := Try.prog) g 0 m c q (by have := unhide HM; omega) w
      have hqm : (q : Int) < (m : Int) := by have := unhide HM; omega
      have hq0 : (0 : Int) < (q : Int) := by omega
      have hui := unhide HU i (by omega)
      rw [← hq] at hst ⊢
      have HJQ := hide hj
      have HQ := hide hq
      have HUI := hide hui
      clear hc hcp hc0 hj hq HJ hui
      by_cases e : q = t
      · subst e
        have hrt : r = true := by rw [hst]; simp
        subst hrt
        clear hst
        go_wp2
        go_ret
        exact ⟨rfl, rfl⟩
      · have hnt : ¬ (q : Int) = (t : Int) := by omega
        have HE := hide (show abN up t (up i) = r by rw [hst]; simp [e])
        clear hst
        go_wp2
        go_roundw
        case rel => exact ⟨up i, by have := unhide HUI; have := unhide HJQ; omega, rfl, unhide HE, trivial⟩
        case measure => have := unhide HUI; have := unhide HQ; simp [intOf]; omega
/-- the first event that met a token, by its reason -/
def fstW (up : Nat → Nat) (D : List (Nat × Int)) (k : Nat) : Int := match D.find? (fun e => abN up e.1 k) with
  | some e => e.2
  | none => 0
theorem fstW_nil (up : Nat → Nat) (k : Nat) : fstW up [] k = 0 := rfl
theorem fstW_cons (up : Nat → Nat) (e : Nat × Int) (D : List (Nat × Int)) (k : Nat) : fstW up (e :: D) k = if abN up e.1 k = true then e.2 else fstW up D k := by
  unfold fstW
  rw [List.find?_cons]
  cases abN up e.1 k <;> simp
theorem fstW_congr {up up' : Nat → Nat} {k k' : Nat} : ∀ (D : List (Nat × Int)), (∀ e ∈ D, abN up' e.1 k' = abN up e.1 k) → fstW up' D k' = fstW up D k
  | [], _ => rfl
  | e :: D, h => by rw [fstW_cons, fstW_cons, h e (List.mem_cons_self ..), fstW_congr D fun x hx => h x (List.mem_cons_of_mem _ hx)]
theorem fstW_app (up : Nat → Nat) (k : Nat) (x : Nat × Int) : ∀ (D : List (Nat × Int)), (∀ e ∈ D, ¬ e.2 = 0) → fstW up (D ++ [x]) k = if fstW up D k = 0 then (if abN up x.1 k = true then x.2 else 0) else fstW up D k
  | [], _ => by rw [List.nil_append, fstW_cons, fstW_nil, if_pos rfl]
  | e :: D, h => by
    have ih := fstW_app up k x D fun y hy => h y (List.mem_cons_of_mem _ hy)
    rw [List.cons_append, fstW_cons, fstW_cons, ih]
    by_cases ha : abN up e.1 k = true
    · rw [if_pos ha, if_pos ha, if_neg (h e (List.mem_cons_self ..))]
    · rw [if_neg ha, if_neg ha]
end Go.Proofs.Ytajbkgcgmkkpiaa.C
