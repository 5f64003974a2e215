/- Sorting numbers of 64 bits: sizes, ranges, one round of pdqsort (mathematics alone). -/
import Derived.Test.YtopabadnbelegaaQSok
import Derived.Sort.AssemblyPlain
namespace Go.Proofs.Ytopabadnbelegaa.K
open Go.RowKit Go.Lib
theorem swoB : Sort.SWO ltB where
  irrefl x := by unfold ltB; simp
  trans x y z h1 h2 := by
    unfold ltB at *
    rw [decide_eq_true_eq] at *
    omega
  ntrans x y z h1 h2 := by
    unfold ltB at *
    rw [decide_eq_false_iff_not] at *
    omega
theorem out_size (a b : Nat) : ∀ (m i : Nat) (d : Array (BitVec 64)), b - i ≤ m → (Sort.insOuter ltB a b i d).size = d.size
  | 0, i, d, h => by rw [out_no a b i d (by omega)]
  | m + 1, i, d, h => by
    by_cases hi : i < b
    · rw [out_go a b i d hi, out_size a b m (i + 1) _ (by omega), ins_size]
    · rw [out_no a b i d hi]
theorem insS_size (a b : Nat) (d : Array (BitVec 64)) : (Sort.insertionSort ltB d a b).size = d.size := out_size a b _ _ d (Nat.le_refl _)
theorem hb_size (H a : Nat) : ∀ (k : Nat) (d : Array (BitVec 64)), (Sort.heapBuild ltB H a k d).size = d.size
  | 0, d => by rw [hb_no]
  | k + 1, d => by rw [hb_go, hb_size H a k, sd_size _ _ _ _ _ (Nat.le_refl _)]
theorem hp_size (a : Nat) : ∀ (k : Nat) (d : Array (BitVec 64)), (Sort.heapPop ltB a k d).size = d.size
  | 0, d => by rw [hp_no]
  | k + 1, d => by rw [hp_go, hp_size a k, sd_size _ _ _ _ _ (Nat.le_refl _), swp_size]
theorem heap_size (a b : Nat) (d : Array (BitVec 64)) : (Sort.heapSort ltB d a b).size = d.size := by
  unfold Sort.heapSort
  rw [hp_size, hb_size]
theorem sdn_size : ∀ (j : Nat) (d : Array (BitVec 64)), (Sort.shiftDown ltB j d).size = d.size
  | 0, d => by rw [Sort.shiftDown]
  | j + 1, d => by
    rw [Sort.shiftDown]
    split
    · rfl
    · rw [sdn_size j, swp_size]
theorem su_size (b : Nat) : ∀ (m j : Nat) (d : Array (BitVec 64)), b - j ≤ m → (Sort.shiftUp ltB b j d).size = d.size
  | 0, j, d, h => by rw [su_no b j d (.inl (by omega))]
  | m + 1, j, d, h => by
    by_cases hj : j < b
    · cases hl : ltB d[j]! d[j - 1]! with
      | true => rw [su_go b j d hj hl, su_size b m (j + 1) _ (by omega), swp_size]
      | false => rw [su_no b j d (.inr hl)]
    · rw [su_no b j d (.inl hj)]
theorem pin_size (a b : Nat) : ∀ (s i : Nat) (d : Array (BitVec 64)), (Sort.partialIns ltB a b s i d).1.size = d.size
  | 0, i, d => by rw [Sort.partialIns]
  | s + 1, i, d => by
    by_cases h1 : Sort.scanSorted ltB d b i = b
    · rw [pin_end a b s i _ d h1 rfl]
    · by_cases h2 : b - a < 50
      · rw [pin_short a b s i _ d rfl h1 h2]
      · rw [pin_go a b s i _ d rfl h1 h2, pin_size a b s]
        unfold shU
        split
        · rw [su_size b _ _ _ (Nat.le_refl _)]
          split
          · rw [sdn_size, swp_size]
          · rw [swp_size]
        · split
          · rw [sdn_size, swp_size]
          · rw [swp_size]
theorem pinS_size (a b : Nat) (d : Array (BitVec 64)) : (Sort.partialInsertionSort ltB d a b).1.size = d.size := pin_size a b _ _ d
theorem peq_facts (a b : Nat) : ∀ (m i j : Nat) (d : Array (BitVec 64)), j + 1 - i ≤ m → a < i → i ≤ j + 1 → j < b → a < (Sort.partEqLoop ltB a i j d).1 ∧ (Sort.partEqLoop ltB a i j d).1 ≤ b ∧ (Sort.partEqLoop ltB a i j d).2.size = d.size := by
  intro m
  induction m with
  | zero =>
    intro i j d hm h1 h2 h3
    have hs := Sort.scanUp_spec (fun x => !ltB d[a]! x) d j _ i rfl
    have hd := Sort.scanDown_le (fun x => ltB d[a]! x) d (Sort.scanUp (fun x => !ltB d[a]! x) d j i) j
    rw [peq_brk a i j _ _ d rfl rfl (by omega)]
    exact ⟨by omega, by have := hs.2.1 h2; dsimp only; omega, rfl⟩
  | succ m ih =>
    intro i j d hm h1 h2 h3
    have hs := Sort.scanUp_spec (fun x => !ltB d[a]! x) d j _ i rfl
    have hd := Sort.scanDown_spec (fun x => ltB d[a]! x) d (Sort.scanUp (fun x => !ltB d[a]! x) d j i) j
    have hs2 := hs.2.1 h2
    by_cases hg : Sort.scanUp (fun x => !ltB d[a]! x) d j i > Sort.scanDown (fun x => ltB d[a]! x) d (Sort.scanUp (fun x => !ltB d[a]! x) d j i) j
    · rw [peq_brk a i j _ _ d rfl rfl hg]
      exact ⟨by dsimp only; omega, by dsimp only; omega, rfl⟩
    · have hne := peq_ne a i j _ _ d rfl rfl (by omega) (by omega)
      rw [peq_go a i j _ _ d rfl rfl hg]
      have := ih (Sort.scanUp (fun x => !ltB d[a]! x) d j i + 1) (Sort.scanDown (fun x => ltB d[a]! x) d (Sort.scanUp (fun x => !ltB d[a]! x) d j i) j - 1) (Sort.swp d (Sort.scanUp (fun x => !ltB d[a]! x) d j i) (Sort.scanDown (fun x => ltB d[a]! x) d (Sort.scanUp (fun x => !ltB d[a]! x) d j i) j)) (by omega) (by omega) (by omega) (by omega)
      rw [swp_size] at this
      exact this
theorem peqS_facts (a b p : Nat) (d : Array (BitVec 64)) (hab : a < b) : a < (Sort.partitionEqual ltB d a b p).1 ∧ (Sort.partitionEqual ltB d a b p).1 ≤ b ∧ (Sort.partitionEqual ltB d a b p).2.size = d.size := by
  have := peq_facts a b _ (a + 1) (b - 1) (Sort.swp d a p) (Nat.le_refl _) (by omega) (by omega) (by omega)
  rw [swp_size] at this
  exact this
theorem partS_facts (a b p : Nat) (d : Array (BitVec 64)) (h1 : a ≤ p) (h2 : p < b) (hb : b ≤ d.size) : a ≤ (Sort.partition ltB d a b p).1 ∧ (Sort.partition ltB d a b p).1 < b ∧ (Sort.partition ltB d a b p).2.2.size = d.size := by
  have h := Sort.partition_holds ltB swoB d a b p h1 h2 hb
  exact ⟨h.1, h.2.1, h.2.2.1.1⟩
/-- what a round leaves to do behind the choice of a pivot -/
def pdT (d : Array (BitVec 64)) (A B pv lim : Nat) (wb wp : Bool) : Array (BitVec 64) :=
  if (decide (A > 0) && !ltB d[A - 1]! d[pv]!) = true then Sort.pdq ltB (Sort.partitionEqual ltB d A B pv).2 (Sort.partitionEqual ltB d A B pv).1 B lim wb wp else
    if (Sort.partition ltB d A B pv).1 - A < B - (Sort.partition ltB d A B pv).1 then
      Sort.pdq ltB (Sort.pdq ltB (Sort.partition ltB d A B pv).2.2 A (Sort.partition ltB d A B pv).1 lim true true) ((Sort.partition ltB d A B pv).1 + 1) B lim (decide ((Sort.partition ltB d A B pv).1 - A ≥ (B - A) / 8)) (Sort.partition ltB d A B pv).2.1
    else Sort.pdq ltB (Sort.pdq ltB (Sort.partition ltB d A B pv).2.2 ((Sort.partition ltB d A B pv).1 + 1) B lim true true) A (Sort.partition ltB d A B pv).1 lim (decide (B - (Sort.partition ltB d A B pv).1 ≥ (B - A) / 8)) (Sort.partition ltB d A B pv).2.1
theorem pdq_round (d : Array (BitVec 64)) (A B lim : Nat) (wb wp : Bool) (h12 : ¬ B - A ≤ 12) (hl : ¬ lim = 0) (d1 d2 : Array (BitVec 64)) (l1 p pv : Nat) (hh : Sort.Hint) (pi : Array (BitVec 64) × Bool)
    (h1 : (if (!wb) = true then Sort.breakPatterns d A B else d) = d1) (h2 : (if (!wb) = true then lim - 1 else lim) = l1) (hc : Sort.choosePivot ltB d1 A B = (p, hh))
    (h3 : (if hh = .decreasing then Sort.reverseRange d1 A B else d1) = d2) (h4 : (if hh = .decreasing then (B - 1) - (p - A) else p) = pv)
    (h5 : (if (wb && wp && decide ((if hh = .decreasing then Sort.Hint.increasing else hh) = .increasing)) = true then Sort.partialInsertionSort ltB d2 A B else (d2, false)) = pi)
    (hp1 : A ≤ pv) (hp2 : pv < B) (hb : B ≤ pi.1.size) : Sort.pdq ltB d A B lim wb wp = if pi.2 = true then pi.1 else pdT pi.1 A B pv l1 wb wp := by
  rw [Sort.pdq, if_neg h12, if_neg hl]
  simp only [h1, h2, hc, h3, h4, h5]
  by_cases hp : pi.2 = true
  · rw [if_pos hp, if_pos hp]
  · rw [if_neg hp, if_neg hp]
    unfold pdT
    have f1 := peqS_facts A B pv pi.1 (by omega)
    have f2 := partS_facts A B pv pi.1 hp1 hp2 hb
    by_cases hq : (decide (A > 0) && !ltB pi.1[A - 1]! pi.1[pv]!) = true
    · rw [if_pos hq, if_pos hq]
      generalize Sort.partitionEqual ltB pi.1 A B pv = r at *
      obtain ⟨r1, r2⟩ := r
      dsimp only at f1 ⊢
      rw [dif_pos ⟨f1.1, f1.2.1⟩]
    · rw [if_neg hq, if_neg hq]
      generalize Sort.partition ltB pi.1 A B pv = r at *
      obtain ⟨r1, r2, r3⟩ := r
      dsimp only at f2 ⊢
      rw [dif_pos ⟨f2.1, f2.2.1⟩]
end Go.Proofs.Ytopabadnbelegaa.K
