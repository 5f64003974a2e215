/- Segments: mathematics. The order of texts; entries; lists of a width; form, sum. -/
import Derived.Test.YtopabadnbelegaaQ01
import Derived.Test.YtopabadnbelegaaQOfx
import Derived.Test.YtopabadnbelegaaQDgb
namespace Go.Proofs.Ytopabadnbelegaa.S
open Go.RowKit Go.Lib
/-- is one text below another -/
def lt (a b : ByteArray) : Bool := Op.bytesLess a.toList b.toList
theorem bl_irrefl : ∀ x : List UInt8, Op.bytesLess x x = false
  | [] => rfl
  | a :: x => by simp [Op.bytesLess, bl_irrefl x]
theorem bl_trans : ∀ x y z : List UInt8, Op.bytesLess x y = true → Op.bytesLess y z = true → Op.bytesLess x z = true
  | [], [], _, h, _ => by simp [Op.bytesLess] at h
  | [], _ :: _, [], _, h => by simp [Op.bytesLess] at h
  | [], _ :: _, _ :: _, _, _ => by simp [Op.bytesLess]
  | _ :: _, [], _, h, _ => by simp [Op.bytesLess] at h
  | _ :: _, _ :: _, [], _, h => by simp [Op.bytesLess] at h
  | a :: x, b :: y, c :: z, h1, h2 => by
    simp only [Op.bytesLess, Bool.or_eq_true, decide_eq_true_eq, Bool.and_eq_true, beq_iff_eq] at h1 h2 ⊢
    rcases h1 with h1 | ⟨rfl, h1⟩ <;> rcases h2 with h2 | ⟨rfl, h2⟩
    · exact .inl (UInt8.lt_trans h1 h2)
    · exact .inl h1
    · exact .inl h2
    · exact .inr ⟨rfl, bl_trans x y z h1 h2⟩
theorem bl_total : ∀ x y : List UInt8, Op.bytesLess x y = false → Op.bytesLess y x = false → x = y
  | [], [], _, _ => rfl
  | [], _ :: _, h, _ => by simp [Op.bytesLess] at h
  | _ :: _, [], _, h => by simp [Op.bytesLess] at h
  | a :: x, b :: y, h1, h2 => by
    simp only [Op.bytesLess, Bool.or_eq_false_iff, decide_eq_false_iff_not, Bool.and_eq_false_iff, beq_eq_false_iff_ne, ne_eq] at h1 h2
    have e : a = b := UInt8.le_antisymm (UInt8.not_lt.1 h2.1) (UInt8.not_lt.1 h1.1)
    subst e
    rw [bl_total x y (h1.2.resolve_left (fun h => h rfl)) (h2.2.resolve_left (fun h => h rfl))]
theorem ba_list {a b : ByteArray} (h : a.toList = b.toList) : a = b := by
  have hx : ∀ x : ByteArray, x.toList = x.data.toList := fun x => by rw [ByteArray.toList_eq]
  rw [hx, hx] at h
  cases a; cases b
  congr 1
  exact Array.ext' h
theorem lt_irrefl (a : ByteArray) : lt a a = false := bl_irrefl _
theorem lt_trans {a b c : ByteArray} (h1 : lt a b = true) (h2 : lt b c = true) : lt a c = true := bl_trans _ _ _ h1 h2
theorem lt_total {a b : ByteArray} (h1 : lt a b = false) (h2 : lt b a = false) : a = b := ba_list (bl_total _ _ h1 h2)
theorem lt_asymm {a b : ByteArray} (h1 : lt a b = true) : lt b a = false := by
  cases h : lt b a
  · rfl
  · have := lt_trans h1 h; rw [lt_irrefl] at this; cases this
theorem lt_ne {a b : ByteArray} (h1 : lt a b = true) : a ≠ b := fun h => by rw [h, lt_irrefl] at h1; cases h1
/-- a ≤ b, b < c -/
theorem lt_of_le {a b c : ByteArray} (h1 : lt b a = false) (h2 : lt b c = true) : lt a c = true := by
  cases h : lt a c
  · cases h3 : lt c a
    · have := lt_total h h3; subst this; rw [h1] at h2; cases h2
    · have := lt_trans h2 h3; rw [h1] at this; cases this
  · rfl
/-- a < b, b ≤ c -/
theorem lt_of_lt {a b c : ByteArray} (h1 : lt a b = true) (h2 : lt c b = false) : lt a c = true := by
  cases h : lt a c
  · cases h3 : lt c a
    · have := lt_total h h3; subst this; rw [h2] at h1; cases h1
    · have := lt_trans h3 h1; rw [h2] at this; cases this
  · rfl


def eB : ByteArray := ⟨#[]⟩
/-- what is wrong with a key -/
def keyE (k : ByteArray) : Int := if 1 ≤ k.size ∧ k.size ≤ 32 then 0 else 130
/-- a key's segment -/
def plN (k : ByteArray) : Nat := ((D.Sha.of (75 :: k.data.toList)).getD 0 0).toNat * 16 + ((D.Sha.of (75 :: k.data.toList)).getD 1 0).toNat / 16
theorem plN_lt (k : ByteArray) : plN k < 4096 := by
  unfold plN
  have h1 := ((D.Sha.of (75 :: k.data.toList)).getD 0 0).toNat_lt
  have h2 := ((D.Sha.of (75 :: k.data.toList)).getD 1 0).toNat_lt
  omega
theorem keyE_zero {k : ByteArray} : keyE k = 0 ↔ 1 ≤ k.size ∧ k.size ≤ 32 := by
  unfold keyE
  by_cases h : 1 ≤ k.size ∧ k.size ≤ 32
  · simp [h]
  · rw [if_neg h]; constructor
    · intro h2; cases h2
    · intro h2; exact absurd h2 h
theorem keyE_no {k : ByteArray} (h : keyE k ≠ 0) : keyE k = 130 := by
  unfold keyE at h ⊢
  by_cases h2 : 1 ≤ k.size ∧ k.size ≤ 32
  · rw [if_pos h2] at h; exact absurd rfl h
  · rw [if_neg h2]
/-- Of -/
def ofI (k : ByteArray) : Int := if keyE k = 0 then (plN k : Int) else -1
/-- Prefix -/
def segP (n : Int) : Prop := 0 ≤ n ∧ n < 4096
instance (n : Int) : Decidable (segP n) := by unfold segP; infer_instance
def preV (n : Int) : ByteArray × Int := if segP n then (⟨(W.fixB n.toNat 2).toArray⟩, 0) else (eB, 1)
/-- an entry: a key and its sum -/
abbrev En := ByteArray × ByteArray
def widP (w : Int) : Prop := 1 ≤ w ∧ w ≤ 32
instance (n : Int) : Decidable (widP n) := by unfold widP; infer_instance
/-- the i-th entry may be there -/
def good (l : List En) (wd : Int) (i : Nat) (hi : i < l.length) : Prop := keyE l[i].1 = 0 ∧ (l[i].2.size : Int) = wd ∧ (0 < i → lt l[i - 1].1 l[i].1 = true)
/-- a list of a width -/
def Ok (l : List En) (wd : Int) : Prop := widP wd ∧ ∀ i (hi : i < l.length), good l wd i hi
open Classical in
noncomputable def okB (l : List En) (wd : Int) : Bool := decide (Ok l wd)
open Classical in
theorem okB_true {l : List En} {wd : Int} : okB l wd = true ↔ Ok l wd := by unfold okB; exact decide_eq_true_iff
open Classical in
theorem okB_false {l : List En} {wd : Int} : okB l wd = false ↔ ¬ Ok l wd := by unfold okB; exact decide_eq_false_iff_not
theorem not_ok_at {l : List En} {wd : Int} {i : Nat} (hi : i < l.length) (h : ¬ good l wd i hi) : okB l wd = false := okB_false.2 fun h2 => h (h2.2 i hi)
/-- a list of some width -/
noncomputable def liB (l : List En) : Bool := match l with | [] => true | e :: l => okB (e :: l) e.2.size
theorem okB_nil {wd : Int} (h : widP wd) : okB [] wd = true := okB_true.2 ⟨h, fun _ hi => absurd hi (Nat.not_lt_zero _)⟩
theorem Ok.wid {l : List En} {wd : Int} (h : Ok l wd) (i : Nat) (hi : i < l.length) : (l[i].2.size : Int) = wd := (h.2 i hi).2.1
theorem Ok.li {l : List En} {wd : Int} (h : Ok l wd) : liB l = true := by
  cases l with
  | nil => rfl
  | cons e l => have := h.wid 0 (Nat.succ_pos _); simp only [List.getElem_cons_zero] at this; show okB (e :: l) e.2.size = true; rw [this]; exact okB_true.2 h
/-- the bytes of an entry, of entries -/
def textB (t : ByteArray) : List UInt8 := W.uintB 9 t.size ++ t.data.toList
def enB (e : En) : List UInt8 := textB e.1 ++ textB e.2
def ensB (l : List En) : List UInt8 := l.flatMap enB
theorem ensB_take (l : List En) {k : Nat} (h : k < l.length) : ensB (l.take (k + 1)) = ensB (l.take k) ++ (textB l[k].1 ++ textB l[k].2) := by
  rw [List.take_succ_eq_append_getElem h]; unfold ensB; rw [List.flatMap_append]; simp [enB]
def formL (n : Nat) (l : List En) : List UInt8 := 83 :: (W.fixB n 2 ++ (W.uintB 9 l.length ++ ensB l))
def formB (n : Nat) (l : List En) : ByteArray := ⟨(formL n l).toArray⟩
noncomputable def formV (n : Int) (l : List En) : ByteArray × Int := if segP n then (if liB l = true then (formB n.toNat l, 0) else (eB, 140)) else (eB, 1)
noncomputable def sumV (n : Int) (l : List En) (wd : Int) : ByteArray × Int := if segP n ∧ widP wd then (if okB l wd = true then (if l.length = 0 then (eB, 0) else (D.cutS (formB n.toNat l) wd.toNat, 0)) else (eB, 140)) else (eB, 1)
noncomputable def homeB (n : Int) (l : List En) : Bool := l.all fun e => decide (ofI e.1 = n)
end Go.Proofs.Ytopabadnbelegaa.S
