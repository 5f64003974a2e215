/- Sketches: mathematics. Cells are a group; mixing, places; what laying items comes to. -/
import Derived.Test.YtdmdenbpokmelaaSga
import Derived.Laws.BitsAllLaws
namespace Go.Proofs.Ytdmdenbpokmelaa.K
open Go.RowKit Go.Lib
/-- a cell -/
structure Ce where
  c : BitVec 16
  x : BitVec 64
  k : BitVec 32
def Ce.add (a b : Ce) : Ce := ⟨a.c + b.c, a.x ^^^ b.x, a.k ^^^ b.k⟩
def Ce.neg (a : Ce) : Ce := ⟨-a.c, a.x, a.k⟩
def Ce.zer : Ce := ⟨0, 0, 0⟩
theorem Ce.eq {a b : Ce} (h1 : a.c = b.c) (h2 : a.x = b.x) (h3 : a.k = b.k) : a = b := by cases a; cases b; simp_all
theorem Ce.add_comm (a b : Ce) : a.add b = b.add a := Ce.eq (BitVec.add_comm _ _) (BitVec.xor_comm _ _) (BitVec.xor_comm _ _)
theorem Ce.add_assoc (a b c : Ce) : (a.add b).add c = a.add (b.add c) := Ce.eq (BitVec.add_assoc _ _ _) (BitVec.xor_assoc _ _ _) (BitVec.xor_assoc _ _ _)
theorem Ce.add_zer (a : Ce) : a.add .zer = a := Ce.eq (BitVec.add_zero _) (BitVec.xor_zero) (BitVec.xor_zero)
theorem Ce.zer_add (a : Ce) : Ce.zer.add a = a := by rw [Ce.add_comm, Ce.add_zer]
theorem Ce.add_neg (a : Ce) : a.add a.neg = .zer := Ce.eq (by show a.c + -a.c = 0; exact BitVec.add_right_neg _) BitVec.xor_self BitVec.xor_self
theorem Ce.neg_add (a : Ce) : a.neg.add a = .zer := by rw [Ce.add_comm, Ce.add_neg]
theorem Ce.neg_neg (a : Ce) : a.neg.neg = a := Ce.eq (BitVec.neg_neg) rfl rfl
theorem Ce.neg_zer : Ce.zer.neg = .zer := rfl
theorem Ce.neg_dist (a b : Ce) : (a.add b).neg = a.neg.add b.neg := Ce.eq (by show -(a.c + b.c) = -a.c + -b.c; rw [BitVec.neg_add, BitVec.sub_eq_add_neg]) rfl rfl
theorem Ce.add_left_comm (a b c : Ce) : a.add (b.add c) = b.add (a.add c) := by rw [← Ce.add_assoc, Ce.add_comm a b, Ce.add_assoc]
theorem Ce.cancel {a b c : Ce} (h : a.add b = a.add c) : b = c := by
  have := congrArg (a.neg.add ·) h
  simpa only [← Ce.add_assoc, Ce.neg_add, Ce.zer_add] using this
/-- 'Mix' of the document -/
def mixB (x j : BitVec 64) : BitVec 64 :=
  let z := x + (j + 1) * 11400714819323198485
  let z := (z ^^^ (z >>> 30)) * 13787848793156543929
  let z := (z ^^^ (z >>> 27)) * 10723151780598845931
  z ^^^ (z >>> 31)
def chk (x : BitVec 64) : BitVec 32 := (mixB x 3).setWidth 32
def plc (x : BitVec 64) (n j : Nat) : Nat := j * (n / 3) + (mixB x (BitVec.ofNat 64 j)).toNat % (n / 3)
theorem plc_lt (x : BitVec 64) (n j : Nat) (hn : 3 ≤ n) (hj : j < 3) : plc x n j < n := by
  unfold plc
  have h1 : 0 < n / 3 := by omega
  have h2 := Nat.mod_lt (mixB x (BitVec.ofNat 64 j)).toNat h1
  have h3 : j * (n / 3) ≤ 2 * (n / 3) := Nat.mul_le_mul_right _ (by omega)
  omega
theorem plc_ne (x y : BitVec 64) (n j i : Nat) (hn : 3 ≤ n) (h : plc x n j = plc y n i) : j = i := by
  unfold plc at h
  have h1 : 0 < n / 3 := by omega
  have h2 := Nat.mod_lt (mixB x (BitVec.ofNat 64 j)).toNat h1
  have h3 := Nat.mod_lt (mixB y (BitVec.ofNat 64 i)).toNat h1
  generalize (mixB x (BitVec.ofNat 64 j)).toNat % (n / 3) = p at *
  generalize (mixB y (BitVec.ofNat 64 i)).toNat % (n / 3) = q at *
  generalize n / 3 = k at *
  rcases Nat.lt_trichotomy j i with h4 | h4 | h4
  · have : (j + 1) * k ≤ i * k := Nat.mul_le_mul_right _ h4
    rw [Nat.succ_mul] at this
    omega
  · exact h4
  · have : (i + 1) * k ≤ j * k := Nat.mul_le_mul_right _ h4
    rw [Nat.succ_mul] at this
    omega
/-- a cell laid over the one at a place -/
def at1 (l : List Ce) (i : Nat) (d : Ce) : List Ce := l.modify i (fun a => a.add d)
theorem at1_len (l : List Ce) (i : Nat) (d : Ce) : (at1 l i d).length = l.length := List.length_modify _ _ _
theorem at1_get (l : List Ce) (i : Nat) (d : Ce) (j : Nat) : (at1 l i d)[j]? = l[j]?.map (fun a => a.add (if i = j then d else .zer)) := by
  unfold at1
  rw [List.getElem?_modify]
  split
  · rfl
  · cases l[j]? with
    | none => rfl
    | some a => simp [Ce.add_zer]
/-- the cell of an item, there so many times more -/
def cel (x : BitVec 64) (c : BitVec 16) : Ce := ⟨c, x, chk x⟩
theorem cel_neg (x : BitVec 64) (c : BitVec 16) : (cel x c).neg = cel x (-c) := rfl
def layB (l : List Ce) (x : BitVec 64) (c : BitVec 16) : List Ce := at1 (at1 (at1 l (plc x l.length 0) (cel x c)) (plc x l.length 1) (cel x c)) (plc x l.length 2) (cel x c)
theorem layB_len (l : List Ce) (x : BitVec 64) (c : BitVec 16) : (layB l x c).length = l.length := by unfold layB; rw [at1_len, at1_len, at1_len]
/-- what an item puts into the cell j -/
def con (n : Nat) (x : BitVec 64) (c : BitVec 16) (j : Nat) : Ce := ((if plc x n 0 = j then cel x c else .zer).add (if plc x n 1 = j then cel x c else .zer)).add (if plc x n 2 = j then cel x c else .zer)
theorem layB_get (l : List Ce) (x : BitVec 64) (c : BitVec 16) (j : Nat) : (layB l x c)[j]? = l[j]?.map (fun a => a.add (con l.length x c j)) := by
  unfold layB con
  rw [at1_get, at1_get, at1_get]
  cases l[j]? with
  | none => simp only [Option.map_none]
  | some a => simp only [Option.map_some, Ce.add_assoc]
theorem ite_neg (p : Prop) [Decidable p] (a : Ce) : (if p then a.neg else Ce.zer) = (if p then a else Ce.zer).neg := by
  by_cases h : p
  · rw [if_pos h, if_pos h]
  · rw [if_neg h, if_neg h, Ce.neg_zer]
theorem con_neg (n : Nat) (x : BitVec 64) (c : BitVec 16) (j : Nat) : con n x (-c) j = (con n x c j).neg := by
  unfold con
  rw [Ce.neg_dist, Ce.neg_dist, ← cel_neg, ite_neg, ite_neg, ite_neg]
/-- a cell each -/
def zip (f : Nat → Ce) (l : List Ce) : List Ce := l.mapIdx fun j a => a.add (f j)
theorem zip_len (f : Nat → Ce) (l : List Ce) : (zip f l).length = l.length := List.length_mapIdx
theorem zip_get (f : Nat → Ce) (l : List Ce) (j : Nat) : (zip f l)[j]? = l[j]?.map (fun a => a.add (f j)) := by unfold zip; rw [List.getElem?_mapIdx]
theorem layB_zip (l : List Ce) (x : BitVec 64) (c : BitVec 16) : layB l x c = zip (con l.length x c) l := List.ext_getElem? fun j => by rw [layB_get, zip_get]
theorem zip_zip (f g : Nat → Ce) (l : List Ce) : zip g (zip f l) = zip (fun j => (f j).add (g j)) l := List.ext_getElem? fun j => by
  rw [zip_get, zip_get, zip_get]
  cases l[j]? with
  | none => rfl
  | some a => simp only [Option.map_some, Ce.add_assoc]
theorem zip_zer (l : List Ce) : zip (fun _ => .zer) l = l := List.ext_getElem? fun j => by
  rw [zip_get]
  cases l[j]? with
  | none => rfl
  | some a => simp only [Option.map_some, Ce.add_zer]
def zerL (n : Nat) : List Ce := List.replicate n .zer
theorem zerL_len (n : Nat) : (zerL n).length = n := List.length_replicate
/-- one less another -/
def minB (a b : List Ce) : List Ce := a.mapIdx fun j x => x.add (b.getD j .zer).neg
theorem minB_len (a b : List Ce) : (minB a b).length = a.length := List.length_mapIdx
theorem minB_get (a b : List Ce) (j : Nat) : (minB a b)[j]? = a[j]?.map (fun x => x.add (b.getD j .zer).neg) := by unfold minB; rw [List.getElem?_mapIdx]
theorem minB_zip (f g : Nat → Ce) (n : Nat) : minB (zip f (zerL n)) (zip g (zerL n)) = zip (fun j => (f j).add (g j).neg) (zerL n) := List.ext_getElem? fun j => by
  rw [minB_get, zip_get, zip_get]
  unfold zerL
  by_cases h : j < n
  · rw [List.getElem?_replicate, if_pos h, List.getD_eq_getElem?_getD, zip_get, List.getElem?_replicate, if_pos h]
    simp only [Option.map_some, Option.getD_some, Ce.zer_add]
  · rw [List.getElem?_replicate, if_neg h]; rfl
/- sums -/
section
variable {α : Type} (f : α → Ce)
def sumA (l : List α) : Ce := l.foldr (fun a s => (f a).add s) .zer
theorem sumA_cons (a : α) (l : List α) : sumA f (a :: l) = (f a).add (sumA f l) := rfl
theorem sumA_append (l m : List α) : sumA f (l ++ m) = (sumA f l).add (sumA f m) := by
  induction l with
  | nil => exact (Ce.zer_add _).symm
  | cons a l ih => rw [List.cons_append, sumA_cons, sumA_cons, ih, Ce.add_assoc]
variable [DecidableEq α]
/-- those whose count, from there on, is above a threshold -/
def sumD (t : α → Nat) : List α → Ce
  | [] => .zer
  | a :: l => if t a < (a :: l).count a then (sumD t l).add (f a) else sumD t l
theorem sumD_up (t : α → Nat) (e : α) (m : List α) : sumD f t m = (sumD f (fun a => if a = e then t a + 1 else t a) m).add (if t e < m.count e then f e else .zer) := by
  induction m with
  | nil => simp [sumD, Ce.add_zer]
  | cons x m ih =>
    unfold sumD
    by_cases h : x = e
    · subst h
      simp only [List.count_cons_self, if_true]
      rw [ih]
      by_cases h1 : t x < m.count x
      · rw [if_pos h1, if_pos (show t x + 1 < m.count x + 1 by omega), if_pos (show t x < m.count x + 1 by omega), if_pos (show t x < m.count x + 1 by omega)]
      · rw [if_neg h1, if_neg (show ¬ t x + 1 < m.count x + 1 by omega), Ce.add_zer]
        by_cases h2 : t x < m.count x + 1
        · rw [if_pos h2, if_pos h2]
        · rw [if_neg h2, if_neg h2, Ce.add_zer]
    · rw [List.count_cons_of_ne h, if_neg h, ih]
      by_cases h1 : t x < (x :: m).count x
      · rw [if_pos h1, if_pos h1, Ce.add_assoc, Ce.add_assoc, Ce.add_comm (f x)]
      · rw [if_neg h1, if_neg h1]
theorem sumD_out (t : α → Nat) (e : α) (m : List α) (h : m.count e ≤ t e) : sumD f (fun a => if a = e then t a + 1 else t a) m = sumD f t m := by
  rw [sumD_up f t e m, if_neg (by omega), Ce.add_zer]
theorem sumD_all (m : List α) : sumD f (fun _ => 0) m = sumA f m := by
  induction m with
  | nil => rfl
  | cons a m ih => unfold sumD; rw [if_pos (by rw [List.count_cons_self]; omega), ih, sumA_cons, Ce.add_comm]
/-- what is left of the ones less the others -/
theorem sum_left (l m : List α) : (sumA f l).add (sumA f m).neg = (sumD f (fun a => m.count a) l).add (sumD f (fun a => l.count a) m).neg := by
  induction l with
  | nil =>
    have : sumD f (fun a => ([] : List α).count a) m = sumA f m := by simpa using sumD_all f m
    rw [this]
    rfl
  | cons e l ih =>
    have hf : (fun a => (e :: l).count a) = fun a => if a = e then l.count a + 1 else l.count a := by
      funext a
      by_cases h : a = e
      · subst h; simp
      · rw [if_neg h, List.count_cons_of_ne (Ne.symm h)]
    rw [sumA_cons, Ce.add_assoc, ih, hf]
    have hu := sumD_up f (fun a => l.count a) e m
    rw [show sumD f (fun a => m.count a) (e :: l) = if m.count e < (e :: l).count e then (sumD f (fun a => m.count a) l).add (f e) else sumD f (fun a => m.count a) l from rfl, List.count_cons_self]
    by_cases h : m.count e ≤ l.count e
    · rw [if_pos (by omega), sumD_out f (fun a => l.count a) e m h, ← Ce.add_assoc, Ce.add_comm (f e)]
    · rw [if_neg (by omega)]
      rw [if_pos (by omega)] at hu
      rw [hu, Ce.neg_dist, Ce.add_left_comm, ← Ce.add_assoc (f e), Ce.add_comm (f e), Ce.add_assoc _ (f e), ← Ce.add_assoc, Ce.add_assoc, Ce.add_neg, Ce.add_zer]
end
end Go.Proofs.Ytdmdenbpokmelaa.K
