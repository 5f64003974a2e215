/- A disk, as the document has it. Of no program. -/
import Derived.Test.YtfdibmbffmgikaaMm
import Derived.Lib.BufferWrite
import Derived.Laws.CopyRow
namespace Go.Proofs.Ytfdibmbffmgikaa
open Go.RowKit Go.Lib

/-- what lies on each page; what is pending, in order; is the power off; the fuse (-1: none) -/
structure Dk where
  lies : List (List UInt8)
  pend : List (Nat × List UInt8)
  off : Bool
  fuse : Int
structure Dk.Ok (d : Dk) : Prop where
  pos : 0 < d.lies.length
  max : d.lies.length ≤ 4096
  len : ∀ l ∈ d.lies, l.length = 1024
  pg : ∀ q ∈ d.pend, q.1 < d.lies.length ∧ q.2.length = 1024
  f0 : -1 ≤ d.fuse
  f1 : d.fuse ≤ 9223372036854775807
/-- the page n as it was written last -/
def newest (l : List UInt8) (p : List (Nat × List UInt8)) (n : Nat) : List UInt8 := p.foldl (fun s q => if q.1 = n then q.2 else s) l
def Dk.page (d : Dk) (n : Nat) : List UInt8 := newest (d.lies.getD n []) d.pend n
/-- the number of the page's last pending write, and one; 0: none -/
def Lst (p : List (Nat × List UInt8)) (n x : Nat) : Prop :=
  (x = 0 ∧ ∀ q ∈ p, q.1 ≠ n) ∨ ∃ i b, x = i + 1 ∧ p[i]? = some (n, b) ∧ ∀ j q, i < j → p[j]? = some q → q.1 ≠ n
theorem Lst.nil (n : Nat) : Lst [] n 0 := .inl ⟨rfl, fun _ h => by cases h⟩
theorem Lst.put_same (p : List (Nat × List UInt8)) (n : Nat) (b : List UInt8) : Lst (p ++ [(n, b)]) n (p.length + 1) :=
  .inr ⟨p.length, b, rfl, by simp, fun j q h1 h2 => by
    have := (List.getElem?_eq_some_iff.1 h2).1
    simp at this
    omega⟩
theorem Lst.put_other {p : List (Nat × List UInt8)} {n x : Nat} (h : Lst p n x) {m : Nat} (hm : m ≠ n) (b : List UInt8) : Lst (p ++ [(m, b)]) n x := by
  rcases h with ⟨h1, h2⟩ | ⟨i, c, h1, h2, h3⟩
  · refine .inl ⟨h1, fun q hq => ?_⟩
    rcases List.mem_append.1 hq with hq | hq
    · exact h2 q hq
    · obtain rfl : q = (m, b) := by simpa using hq
      exact hm
  · have hi := (List.getElem?_eq_some_iff.1 h2).1
    refine .inr ⟨i, c, h1, by rw [List.getElem?_append_left hi]; exact h2, fun j q hj hq => ?_⟩
    rcases Nat.lt_or_ge j p.length with h' | h'
    · rw [List.getElem?_append_left h'] at hq
      exact h3 j q hj hq
    · have hjl := (List.getElem?_eq_some_iff.1 hq).1
      simp at hjl
      obtain rfl : j = p.length := by omega
      simp at hq
      subst hq
      exact hm
theorem newest_none (l : List UInt8) (n : Nat) : ∀ (p : List (Nat × List UInt8)), (∀ q ∈ p, q.1 ≠ n) → newest l p n = l
  | [], _ => rfl
  | q :: p, h => by
    have := newest_none l n p (fun r hr => h r (by simp [hr]))
    simp only [newest, List.foldl_cons] at this ⊢
    rw [if_neg (h q (by simp))]
    exact this
theorem newest_append (l : List UInt8) (p q : List (Nat × List UInt8)) (n : Nat) : newest l (p ++ q) n = newest (newest l p n) q n := by simp [newest]
theorem Lst.newest_zero {p : List (Nat × List UInt8)} {n : Nat} (h : Lst p n 0) (l : List UInt8) : newest l p n = l := by
  rcases h with ⟨_, h⟩ | ⟨i, _, h, _⟩
  · exact newest_none l n p h
  · omega
theorem Lst.newest_succ {p : List (Nat × List UInt8)} {n i : Nat} (h : Lst p n (i + 1)) (l : List UInt8) : ∃ hi : i < p.length, p[i].1 = n ∧ newest l p n = p[i].2 := by
  rcases h with ⟨h, _⟩ | ⟨j, b, h1, h2, h3⟩
  · omega
  · obtain rfl : i = j := by omega
    have hi := (List.getElem?_eq_some_iff.1 h2).1
    have he := (List.getElem?_eq_some_iff.1 h2).2
    refine ⟨hi, by rw [he], ?_⟩
    have hsplit : p = p.take i ++ (n, b) :: p.drop (i + 1) := by
      rw [← he, List.getElem_cons_drop, List.take_append_drop]
    rw [he]
    rw [hsplit, newest_append, show (n, b) :: p.drop (i + 1) = [(n, b)] ++ p.drop (i + 1) from rfl, newest_append, newest_none]
    · simp [newest]
    · intro q hq
      obtain ⟨k, hk, hkq⟩ := List.getElem_of_mem hq
      rw [List.getElem_drop] at hkq
      refine h3 (i + 1 + k) q (by omega) ?_
      rw [← hkq]
      simp at hk
      exact List.getElem?_eq_getElem (by omega)
/-- what lies there behind the first i pending writes, of each of which s tells how many bytes land -/
def Dk.landed (d : Dk) (s : Nat → Nat) : Nat → List (List UInt8)
  | 0 => d.lies
  | i + 1 =>
    let w := d.pend.getD i (0, [])
    (d.landed s i).set w.1 (w.2.take (s i) ++ ((d.landed s i).getD w.1 []).drop (s i))
theorem Dk.landed_length (d : Dk) (s : Nat → Nat) : ∀ i, (d.landed s i).length = d.lies.length
  | 0 => rfl
  | i + 1 => by simp only [Dk.landed, List.length_set]; exact d.landed_length s i
theorem getD_mem {α : Type} (l : List α) (i : Nat) (h : i < l.length) (x : α) : l.getD i x ∈ l := by
  rw [List.getD_eq_getElem?_getD, List.getElem?_eq_getElem h]
  exact List.getElem_mem h
theorem Dk.Ok.landed_len {d : Dk} (h : d.Ok) (s : Nat → Nat) : ∀ i, i ≤ d.pend.length → ∀ l ∈ d.landed s i, l.length = 1024
  | 0, _ => h.len
  | i + 1, hi => by
    intro l hl
    simp only [Dk.landed] at hl
    have ih := h.landed_len s i (by omega)
    obtain ⟨h1, h2⟩ := h.pg (d.pend.getD i (0, [])) (getD_mem _ _ (by omega) _)
    rcases List.mem_or_eq_of_mem_set hl with hl | rfl
    · exact ih l hl
    · rw [List.length_append, List.length_take, List.length_drop, h2, ih _ (getD_mem _ _ (by rw [d.landed_length]; exact h1) _)]
      omega
def Dk.settle (d : Dk) (s : Nat → Nat) : Dk := ⟨d.landed s d.pend.length, [], d.off, d.fuse⟩
theorem Dk.Ok.settle {d : Dk} (h : d.Ok) (s : Nat → Nat) : (d.settle s).Ok :=
  ⟨by show 0 < (d.landed s _).length; rw [d.landed_length]; exact h.pos, by show (d.landed s _).length ≤ _; rw [d.landed_length]; exact h.max, h.landed_len s _ (Nat.le_refl _), (fun _ hq => by cases hq), h.f0, h.f1⟩
/-- the flat row of pages -/
theorem flat_len : ∀ (l : List (List UInt8)), (∀ x ∈ l, x.length = 1024) → l.flatten.length = l.length * 1024
  | [], _ => rfl
  | x :: l, h => by
    rw [List.flatten_cons, List.length_append, h x (by simp), flat_len l (fun y hy => h y (by simp [hy])), List.length_cons]
    omega
theorem flat_split (l : List (List UInt8)) (n : Nat) (hn : n < l.length) : l.flatten = (l.take n).flatten ++ l[n] ++ (l.drop (n + 1)).flatten := by
  conv => lhs; rw [← List.take_append_drop n l, ← List.getElem_cons_drop hn, List.flatten_append, List.flatten_cons]
  rw [List.append_assoc]
theorem flat_take (l : List (List UInt8)) (h : ∀ x ∈ l, x.length = 1024) (n : Nat) (hn : n ≤ l.length) : l.flatten.take (n * 1024) = (l.take n).flatten := by
  conv => lhs; rw [← List.take_append_drop n l, List.flatten_append]
  have := flat_len (l.take n) (fun x hx => h x (List.mem_of_mem_take hx))
  rw [List.length_take, Nat.min_eq_left hn] at this
  rw [← this, List.take_left]
theorem flat_drop (l : List (List UInt8)) (h : ∀ x ∈ l, x.length = 1024) (n : Nat) (hn : n ≤ l.length) : l.flatten.drop (n * 1024) = (l.drop n).flatten := by
  conv => lhs; rw [← List.take_append_drop n l, List.flatten_append]
  have := flat_len (l.take n) (fun x hx => h x (List.mem_of_mem_take hx))
  rw [List.length_take, Nat.min_eq_left hn] at this
  rw [← this, List.drop_left]
theorem flat_at (l : List (List UInt8)) (h : ∀ x ∈ l, x.length = 1024) (n : Nat) (hn : n < l.length) (j : Nat) (hj : j < 1024) : l.flatten[n * 1024 + j]? = (l.getD n [])[j]? := by
  have h1 : l.flatten[n * 1024 + j]? = (l.flatten.drop (n * 1024))[j]? := by rw [List.getElem?_drop]
  rw [h1, flat_drop l h n (by omega), ← List.getElem_cons_drop hn, List.flatten_cons, List.getElem?_append_left (by rw [h _ (List.getElem_mem hn)]; exact hj)]
  simp [List.getD, hn]
theorem flat_set (l : List (List UInt8)) (h : ∀ x ∈ l, x.length = 1024) (n : Nat) (hn : n < l.length) (b : List UInt8) (s : Nat) (hs : s ≤ 1024) :
    l.flatten.take (n * 1024) ++ b ++ l.flatten.drop (n * 1024 + s) = (l.set n (b ++ (l.getD n []).drop s)).flatten := by
  have hd : l.flatten.drop (n * 1024 + s) = (l[n].drop s) ++ (l.drop (n + 1)).flatten := by
    rw [← List.drop_drop, flat_drop l h n (by omega), ← List.getElem_cons_drop hn, List.flatten_cons, List.drop_append_of_le_length (by rw [h _ (List.getElem_mem hn)]; exact hs)]
  rw [flat_take l h n (by omega), hd, List.set_eq_take_append_cons_drop, if_pos hn, List.flatten_append, List.flatten_cons]
  simp [List.getD, hn, List.append_assoc]
/-- the cells of what is pending -/
def wCells (q : Nat × List UInt8) : List Value := .int .i64 (q.1 : Int) :: byteCells q.2
def pCells (p : List (Nat × List UInt8)) : List Value := p.flatMap wCells
theorem wCells_len (q : Nat × List UInt8) (h : q.2.length = 1024) : (wCells q).length = 1025 := by simp [wCells, byteCells_length, h]
theorem pCells_len : ∀ (p : List (Nat × List UInt8)), (∀ q ∈ p, q.2.length = 1024) → (pCells p).length = p.length * 1025
  | [], _ => rfl
  | q :: p, h => by
    have := pCells_len p (fun r hr => h r (by simp [hr]))
    simp only [pCells, List.flatMap_cons, List.length_append, List.length_cons] at this ⊢
    rw [this, wCells_len q (h q (by simp))]
    omega
theorem pCells_append (p q : List (Nat × List UInt8)) : pCells (p ++ q) = pCells p ++ pCells q := by simp [pCells]
theorem pCells_at (p : List (Nat × List UInt8)) (h : ∀ q ∈ p, q.2.length = 1024) (i : Nat) (hi : i < p.length) (j : Nat) (hj : j < 1025) : (pCells p)[i * 1025 + j]? = (wCells p[i])[j]? := by
  have hsplit : p = p.take i ++ p[i] :: p.drop (i + 1) := by rw [List.getElem_cons_drop, List.take_append_drop]
  have hl := pCells_len (p.take i) (fun x hx => h x (List.mem_of_mem_take hx))
  rw [List.length_take, Nat.min_eq_left (by omega)] at hl
  have e : pCells p = pCells (p.take i) ++ (wCells p[i] ++ pCells (p.drop (i + 1))) := by
    conv => lhs; rw [hsplit, pCells_append]
    rw [show pCells (p[i] :: p.drop (i + 1)) = wCells p[i] ++ pCells (p.drop (i + 1)) from List.flatMap_cons]
  rw [e, List.getElem?_append_right (by omega), hl, Nat.add_sub_cancel_left, List.getElem?_append_left (by rw [wCells_len _ (h _ (List.getElem_mem hi))]; exact hj)]
theorem bcells_at (l : List UInt8) (j : Nat) (h : j < l.length) : (byteCells l)[j]? = some (.int .u8 (l[j].toNat : Int)) := by simp [byteCells, h]
theorem wCells_one (q : Nat × List UInt8) : ∀ v ∈ wCells q, v.oneCell' = true := by
  intro v hv
  rcases List.mem_cons.1 hv with rfl | hv
  · rfl
  · exact byteCells_one _ v hv
end Go.Proofs.Ytfdibmbffmgikaa
