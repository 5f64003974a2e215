/- What is wanted of the disk here, in a namespace of its own. -/
import Derived.Test.YtfdfbjijomepgaaDoorRows
import Derived.WalkKit
import Derived.WalkLawsBesides
import Derived.ProofKit
import Derived.OpenShut
import Derived.Handy
import Derived.Below
import Derived.Laws.Rows
import Derived.Laws.BitsAllLaws
import Derived.Deep.QuietTactic
import Derived.Deep.RegionHeld3
import Derived.Deep.RegionWith
import Derived.Deep.MidRow
import Derived.Deep.OwnRows
import Derived.Deep.Heap
import Derived.Lib.ConvBytes
import Derived.Lib.BufferWrite
import Derived.Laws.CopyRow
import Derived.ArgAppend
import Derived.Lib.AppendStr
import Derived.Laws.Slices
import Derived.Great.BuildSlice
namespace Go.Proofs.YtfdfbjijomepgaaDoor.D
section
open Go.RowKit
theorem hide {p : Prop} (h : p) : Hid p := h
theorem unhide {p : Prop} (h : Hid p) : p := h
theorem heapCell_same {w : World} {g : Nat} {cs : Array Value} {t : TypeId} {fr : Nat × Nat} (h : w.heap[g]? = some (.cells cs t fr)) (k : Nat) (v : Value) : (w.setCell ⟨g, k, none⟩ v).heap[g]? = some (.cells (cs.setIfInBounds k v) t fr) := by
  simp [World.setCell, Array.getElem?_modify, h]
theorem belowCell {B : Nat} {a w : World} (h : Below B a w) {p : Addr} (hg : B ≤ p.block) (v : Value) : Below B a (w.setCell p v) :=
  ⟨h.os, h.tape, h.output, by simpa [World.setCell] using h.size, fun k hk => (Deep.blk_setCell_other w p v k (by omega)).trans (h.block k hk)⟩
/-- a new variable that holds a value -/
theorem wpList_box_row {P : Program} {ops : Array Oper} {rest : List Oper} {o : Oper} {a : Act} {w : World} {Q : Exit → Act → World → Prop} (hg : o.guard = none) (t : TypeId) (x : Operand) (ho : o.op = .box t x) (d : Option Tmp) (hd : o.dst = d)
    (N : Nat) (hN : w.heap.size = N) (cells : Array Value) (hx : (a.eval x).cells = cells)
    (h : ∀ w', Hid (w'.heap[N]? = some (.cells cells t (0, 0))) → Hid (Below N w w') → Hid (w'.heap.size = N + 1) → wpList P ops Q rest (a.put d (.pointer (some ⟨N, 0, none⟩))) w') : wpList P ops Q (o :: rest) a w := by
  subst hN
  subst hd hx
  refine wpList_plain hg fun K hK => ?_
  unfold Oper.wp execOp
  simp only [ho, Sem.run_bind, Instr.box, newVar, newRow, run_newObj_alloc, Sem.run_pure, Result.andThen_ok]
  exact hK _ _ (h _ (heap_alloc_new _ _) ((Below.refl _ _).alloc (Nat.le_refl _) _) (hide (by simp)))
end
section
open Go.RowKit Go.Lib
/-- what lies on each page; what is pending, in order; is the power off; the fuse (-1: none) -/
structure Dk where
  lies : List (List UInt8)
  pend : List (Nat × List UInt8)
  off : Bool
  fuse : Int
structure Dk.Ok (d : Dk) : Prop where
  pos : 0 < d.lies.length
  max : d.lies.length ≤ 4096
  len : ∀ l ∈ d.lies, l.length = 1024
  pg : ∀ q ∈ d.pend, q.1 < d.lies.length ∧ q.2.length = 1024
  f0 : -1 ≤ d.fuse
  f1 : d.fuse ≤ 9223372036854775807
/-- the page n as it was written last -/
def newest (l : List UInt8) (p : List (Nat × List UInt8)) (n : Nat) : List UInt8 := p.foldl (fun s q => if q.1 = n then q.2 else s) l
def Dk.page (d : Dk) (n : Nat) : List UInt8 := newest (d.lies.getD n []) d.pend n
/-- the number of the page's last pending write, and one; 0: none -/
def Lst (p : List (Nat × List UInt8)) (n x : Nat) : Prop :=
  (x = 0 ∧ ∀ q ∈ p, q.1 ≠ n) ∨ ∃ i b, x = i + 1 ∧ p[i]? = some (n, b) ∧ ∀ j q, i < j → p[j]? = some q → q.1 ≠ n
theorem Lst.nil (n : Nat) : Lst [] n 0 := .inl ⟨rfl, fun _ h => by cases h⟩
theorem Lst.put_same (p : List (Nat × List UInt8)) (n : Nat) (b : List UInt8) : Lst (p ++ [(n, b)]) n (p.length + 1) :=
  .inr ⟨p.length, b, rfl, by simp, fun j q h1 h2 => by
    have := (List.getElem?_eq_some_iff.1 h2).1
    simp at this
    omega⟩
theorem Lst.put_other {p : List (Nat × List UInt8)} {n x : Nat} (h : Lst p n x) {m : Nat} (hm : m ≠ n) (b : List UInt8) : Lst (p ++ [(m, b)]) n x := by
  rcases h with ⟨h1, h2⟩ | ⟨i, c, h1, h2, h3⟩
  · refine .inl ⟨h1, fun q hq => ?_⟩
    rcases List.mem_append.1 hq with hq | hq
    · exact h2 q hq
    · obtain rfl : q = (m, b) := by simpa using hq
      exact hm
  · have hi := (List.getElem?_eq_some_iff.1 h2).1
    refine .inr ⟨i, c, h1, by rw [List.getElem?_append_left hi]; exact h2, fun j q hj hq => ?_⟩
    rcases Nat.lt_or_ge j p.length with h' | h'
    · rw [List.getElem?_append_left h'] at hq
      exact h3 j q hj hq
    · have hjl := (List.getElem?_eq_some_iff.1 hq).1
      simp at hjl
      obtain rfl : j = p.length := by omega
      simp at hq
      subst hq
      exact hm
theorem newest_none (l : List UInt8) (n : Nat) : ∀ (p : List (Nat × List UInt8)), (∀ q ∈ p, q.1 ≠ n) → newest l p n = l
  | [], _ => rfl
  | q :: p, h => by
    have := newest_none l n p (fun r hr => h r (by simp [hr]))
    simp only [newest, List.foldl_cons] at this ⊢
    rw [if_neg (h q (by simp))]
    exact this
theorem newest_append (l : List UInt8) (p q : List (Nat × List UInt8)) (n : Nat) : newest l (p ++ q) n = newest (newest l p n) q n := by simp [newest]
theorem Lst.newest_zero {p : List (Nat × List UInt8)} {n : Nat} (h : Lst p n 0) (l : List UInt8) : newest l p n = l := by
  rcases h with ⟨_, h⟩ | ⟨i, _, h, _⟩
  · exact newest_none l n p h
  · omega
theorem Lst.newest_succ {p : List (Nat × List UInt8)} {n i : Nat} (h : Lst p n (i + 1)) (l : List UInt8) : ∃ hi : i < p.length, p[i].1 = n ∧ newest l p n = p[i].2 := by
  rcases h with ⟨h, _⟩ | ⟨j, b, h1, h2, h3⟩
  · omega
  · obtain rfl : i = j := by omega
    have hi := (List.getElem?_eq_some_iff.1 h2).1
    have he := (List.getElem?_eq_some_iff.1 h2).2
    refine ⟨hi, by rw [he], ?_⟩
    have hsplit : p = p.take i ++ (n, b) :: p.drop (i + 1) := by
      rw [← he, List.getElem_cons_drop, List.take_append_drop]
    rw [he]
    rw [hsplit, newest_append, show (n, b) :: p.drop (i + 1) = [(n, b)] ++ p.drop (i + 1) from rfl, newest_append, newest_none]
    · simp [newest]
    · intro q hq
      obtain ⟨k, hk, hkq⟩ := List.getElem_of_mem hq
      rw [List.getElem_drop] at hkq
      refine h3 (i + 1 + k) q (by omega) ?_
      rw [← hkq]
      simp at hk
      exact List.getElem?_eq_getElem (by omega)
/-- what lies there behind the first i pending writes, of each of which s tells how many bytes land -/
def Dk.landed (d : Dk) (s : Nat → Nat) : Nat → List (List UInt8)
  | 0 => d.lies
  | i + 1 =>
    let w := d.pend.getD i (0, [])
    (d.landed s i).set w.1 (w.2.take (s i) ++ ((d.landed s i).getD w.1 []).drop (s i))
theorem Dk.landed_length (d : Dk) (s : Nat → Nat) : ∀ i, (d.landed s i).length = d.lies.length
  | 0 => rfl
  | i + 1 => by simp only [Dk.landed, List.length_set]; exact d.landed_length s i
theorem getD_mem {α : Type} (l : List α) (i : Nat) (h : i < l.length) (x : α) : l.getD i x ∈ l := by
  rw [List.getD_eq_getElem?_getD, List.getElem?_eq_getElem h]
  exact List.getElem_mem h
theorem Dk.Ok.landed_len {d : Dk} (h : d.Ok) (s : Nat → Nat) : ∀ i, i ≤ d.pend.length → ∀ l ∈ d.landed s i, l.length = 1024
  | 0, _ => h.len
  | i + 1, hi => by
    intro l hl
    simp only [Dk.landed] at hl
    have ih := h.landed_len s i (by omega)
    obtain ⟨h1, h2⟩ := h.pg (d.pend.getD i (0, [])) (getD_mem _ _ (by omega) _)
    rcases List.mem_or_eq_of_mem_set hl with hl | rfl
    · exact ih l hl
    · rw [List.length_append, List.length_take, List.length_drop, h2, ih _ (getD_mem _ _ (by rw [d.landed_length]; exact h1) _)]
      omega
def Dk.settle (d : Dk) (s : Nat → Nat) : Dk := ⟨d.landed s d.pend.length, [], d.off, d.fuse⟩
theorem Dk.Ok.settle {d : Dk} (h : d.Ok) (s : Nat → Nat) : (d.settle s).Ok :=
  ⟨by show 0 < (d.landed s _).length; rw [d.landed_length]; exact h.pos, by show (d.landed s _).length ≤ _; rw [d.landed_length]; exact h.max, h.landed_len s _ (Nat.le_refl _), (fun _ hq => by cases hq), h.f0, h.f1⟩
/-- the flat row of pages -/
theorem flat_len : ∀ (l : List (List UInt8)), (∀ x ∈ l, x.length = 1024) → l.flatten.length = l.length * 1024
  | [], _ => rfl
  | x :: l, h => by
    rw [List.flatten_cons, List.length_append, h x (by simp), flat_len l (fun y hy => h y (by simp [hy])), List.length_cons]
    omega
theorem flat_take (l : List (List UInt8)) (h : ∀ x ∈ l, x.length = 1024) (n : Nat) (hn : n ≤ l.length) : l.flatten.take (n * 1024) = (l.take n).flatten := by
  conv => lhs; rw [← List.take_append_drop n l, List.flatten_append]
  have := flat_len (l.take n) (fun x hx => h x (List.mem_of_mem_take hx))
  rw [List.length_take, Nat.min_eq_left hn] at this
  rw [← this, List.take_left]
theorem flat_drop (l : List (List UInt8)) (h : ∀ x ∈ l, x.length = 1024) (n : Nat) (hn : n ≤ l.length) : l.flatten.drop (n * 1024) = (l.drop n).flatten := by
  conv => lhs; rw [← List.take_append_drop n l, List.flatten_append]
  have := flat_len (l.take n) (fun x hx => h x (List.mem_of_mem_take hx))
  rw [List.length_take, Nat.min_eq_left hn] at this
  rw [← this, List.drop_left]
theorem flat_at (l : List (List UInt8)) (h : ∀ x ∈ l, x.length = 1024) (n : Nat) (hn : n < l.length) (j : Nat) (hj : j < 1024) : l.flatten[n * 1024 + j]? = (l.getD n [])[j]? := by
  have h1 : l.flatten[n * 1024 + j]? = (l.flatten.drop (n * 1024))[j]? := by rw [List.getElem?_drop]
  rw [h1, flat_drop l h n (by omega), ← List.getElem_cons_drop hn, List.flatten_cons, List.getElem?_append_left (by rw [h _ (List.getElem_mem hn)]; exact hj)]
  simp [List.getD, hn]
theorem flat_set (l : List (List UInt8)) (h : ∀ x ∈ l, x.length = 1024) (n : Nat) (hn : n < l.length) (b : List UInt8) (s : Nat) (hs : s ≤ 1024) :
    l.flatten.take (n * 1024) ++ b ++ l.flatten.drop (n * 1024 + s) = (l.set n (b ++ (l.getD n []).drop s)).flatten := by
  have hd : l.flatten.drop (n * 1024 + s) = (l[n].drop s) ++ (l.drop (n + 1)).flatten := by
    rw [← List.drop_drop, flat_drop l h n (by omega), ← List.getElem_cons_drop hn, List.flatten_cons, List.drop_append_of_le_length (by rw [h _ (List.getElem_mem hn)]; exact hs)]
  rw [flat_take l h n (by omega), hd, List.set_eq_take_append_cons_drop, if_pos hn, List.flatten_append, List.flatten_cons]
  simp [List.getD, hn, List.append_assoc]
/-- the cells of what is pending -/
def wCells (q : Nat × List UInt8) : List Value := .int .i64 (q.1 : Int) :: byteCells q.2
def pCells (p : List (Nat × List UInt8)) : List Value := p.flatMap wCells
theorem wCells_len (q : Nat × List UInt8) (h : q.2.length = 1024) : (wCells q).length = 1025 := by simp [wCells, byteCells_length, h]
theorem pCells_len : ∀ (p : List (Nat × List UInt8)), (∀ q ∈ p, q.2.length = 1024) → (pCells p).length = p.length * 1025
  | [], _ => rfl
  | q :: p, h => by
    have := pCells_len p (fun r hr => h r (by simp [hr]))
    simp only [pCells, List.flatMap_cons, List.length_append, List.length_cons] at this ⊢
    rw [this, wCells_len q (h q (by simp))]
    omega
theorem pCells_append (p q : List (Nat × List UInt8)) : pCells (p ++ q) = pCells p ++ pCells q := by simp [pCells]
theorem pCells_at (p : List (Nat × List UInt8)) (h : ∀ q ∈ p, q.2.length = 1024) (i : Nat) (hi : i < p.length) (j : Nat) (hj : j < 1025) : (pCells p)[i * 1025 + j]? = (wCells p[i])[j]? := by
  have hsplit : p = p.take i ++ p[i] :: p.drop (i + 1) := by rw [List.getElem_cons_drop, List.take_append_drop]
  have hl := pCells_len (p.take i) (fun x hx => h x (List.mem_of_mem_take hx))
  rw [List.length_take, Nat.min_eq_left (by omega)] at hl
  have e : pCells p = pCells (p.take i) ++ (wCells p[i] ++ pCells (p.drop (i + 1))) := by
    conv => lhs; rw [hsplit, pCells_append]
    rw [show pCells (p[i] :: p.drop (i + 1)) = wCells p[i] ++ pCells (p.drop (i + 1)) from List.flatMap_cons]
  rw [e, List.getElem?_append_right (by omega), hl, Nat.add_sub_cancel_left, List.getElem?_append_left (by rw [wCells_len _ (h _ (List.getElem_mem hi))]; exact hj)]
theorem bcells_at (l : List UInt8) (j : Nat) (h : j < l.length) : (byteCells l)[j]? = some (.int .u8 (l[j].toNat : Int)) := by simp [byteCells, h]
theorem wCells_one (q : Nat × List UInt8) : ∀ v ∈ wCells q, v.oneCell' = true := by
  intro v hv
  rcases List.mem_cons.1 hv with rfl | hv
  · rfl
  · exact byteCells_one _ v hv
end
section
open Go.RowKit Go.Lib
/-- the new row is the old one, or a new one -/
def NewRow (w : World) (v v' : Value) : Prop := v'.ownBlock = v.ownBlock ∨ ∃ g, v'.ownBlock = some g ∧ w.heap.size ≤ g

section
variable {P : Program} (w : World)
theorem run_append_own' (base : Nat) (t ty e : TypeId) (i : TypeInfo) (z : Value) (size bytes : Nat) (ht : P.underlying t = some (.slice e)) (hi : P.info? e = some i) (hz : i.zero = some z)
    (hsize : i.size = size) (hby : i.bytes = bytes) (hzs : z.cells.size = size) (hsz : 0 < size)
    (v : Value) (n : Nat) (xs : List Value) (hown : w.ownsRow base e size v n xs)
    (a : Addr) (m c : Nat) (news : List Value) (hl : news.length = m * size) (hnews : ∀ j u, news[j]? = some u → w.cell? (a.add j) = some u) (h1 : ∀ u ∈ news, u.oneCell' = true)
    (h63 : n + m ≤ maxLen) (hbytes : (n + m) * bytes ≤ 140737488355328) (hbase : base ≤ w.heap.size) :
    ∃ v' w', (Builtin.append_ #[t, t] ty #[v, .slice (some a) m c]).run P w = .ok v' w' ∧ w'.ownsRow base e size v' (n + m) (xs ++ news) ∧ w.grownBy w' v.ownBlock ∧ NewRow w v v' := by
  obtain ⟨v', w', hr, h2, h3, h4⟩ := run_append_own (P := P) w base t ty e i z size bytes ht hi hz hsize hby hzs hsz v n xs hown a m c news hl hnews h1 h63 hbytes hbase
  refine ⟨v', w', hr, h2, h3, ?_⟩
  have fresh : ∀ {w2 : World}, w2.ownsRow w.heap.size e size v' (n + m) (xs ++ news) → NewRow w v v' ∨ v' = .slice none 0 0 := by
    intro w2 h
    rcases h.2 with ⟨h, _⟩ | ⟨g, cap, cur, h, hb, _⟩
    · exact .inr h
    · exact .inl (.inr ⟨g, by rw [h]; rfl, hb⟩)
  have bare : v' = .slice none 0 0 → NewRow w v v' := fun h => .inl (by rw [h, (h4.1 h).1])
  rcases hown.2 with ⟨hv, hn⟩ | ⟨g, cap, cur, hv, hb, hg, hnc, hcm, hcs, htake⟩
  · subst hn
    have ho' : w.ownsRow w.heap.size e size v 0 xs := ⟨hown.1, .inl ⟨hv, rfl⟩⟩
    obtain ⟨v2, w2, hr', k2, _, _⟩ := run_append_own (P := P) w w.heap.size t ty e i z size bytes ht hi hz hsize hby hzs hsz v 0 xs ho' a m c news hl hnews h1 h63 hbytes (Nat.le_refl _)
    rw [hr] at hr'
    cases hr'
    exact (fresh k2).elim id bare
  · by_cases hroom : n + m ≤ cap
    · obtain ⟨w2, hr', k2, _⟩ := run_append_fits (P := P) w base t ty e i size ht hi hsize g n cap xs (hv ▸ hown) a m c news hl hnews h1 hroom
      rw [← hv, hr] at hr'
      cases hr'
      exact .inl (by rw [hv]; rfl)
    · obtain ⟨v2, w2, hr', k2, _⟩ := run_append_arg_grows (P := P) w t ty e i z size bytes ht hi hz hsize hby hzs hsz ⟨g, 0, none⟩ n cap xs hown.1 (hown.cells (by rw [hv]; rfl)) a m c news hl hnews (by omega) h63 hbytes
      rw [← hv, hr] at hr'
      cases hr'
      exact (fresh k2).elim id bare

end
end
section
open Go.RowKit Go.Lib
/-- what is done to the blocks F, and to new ones, alone -/
structure UpS (w w' : World) (F : List Nat) : Prop where
  os : w'.os = w.os
  tape : w'.tape = w.tape
  output : w'.output = w.output
  size : w.heap.size ≤ w'.heap.size
  block : ∀ k, k < w.heap.size → k ∉ F → w'.heap[k]? = w.heap[k]?
theorem UpS.refl (w : World) (F : List Nat) : UpS w w F := ⟨rfl, rfl, rfl, Nat.le_refl _, fun _ _ _ => rfl⟩
theorem UpS.trans {a b c : World} {F G : List Nat} (h : UpS a b F) (k : UpS b c G) (hs : ∀ x ∈ G, x ∈ F ∨ a.heap.size ≤ x) : UpS a c F :=
  ⟨k.os.trans h.os, k.tape.trans h.tape, k.output.trans h.output, Nat.le_trans h.size k.size, fun q hq hn =>
    (k.block q (Nat.lt_of_lt_of_le hq h.size) (fun hx => (hs q hx).elim hn (fun h' => by omega))).trans (h.block q hq hn)⟩
theorem UpS.setCell {a b : World} {F : List Nat} (h : UpS a b F) {p : Addr} (hp : p.block ∈ F ∨ a.heap.size ≤ p.block) (v : Value) : UpS a (b.setCell p v) F :=
  ⟨h.os, h.tape, h.output, by simpa [World.setCell] using h.size, fun q hq hn => (Deep.blk_setCell_other b p v q (fun e => hp.elim (fun h' => hn (e ▸ h')) (fun h' => by omega))).trans (h.block q hq hn)⟩
theorem heapRow_same {w : World} {g : Nat} {cs : Array Value} {t : TypeId} {fr : Nat × Nat} (h : w.heap[g]? = some (.cells cs t fr)) (cs' : Array Value) : (w.setRow g cs').heap[g]? = some (.cells cs' t fr) := by
  simp [World.setRow, Array.getElem?_modify, h]
theorem heapRow_other (w : World) (g k : Nat) (cs' : Array Value) (h : k ≠ g) : (w.setRow g cs').heap[k]? = w.heap[k]? := by
  simp only [World.setRow, Array.getElem?_modify]
  rw [if_neg (by omega)]
theorem UpS.setRow {a b : World} {F : List Nat} (h : UpS a b F) {g : Nat} (hp : g ∈ F ∨ a.heap.size ≤ g) (cs : Array Value) : UpS a (b.setRow g cs) F :=
  ⟨h.os, h.tape, h.output, by simpa [World.setRow] using h.size, fun q hq hn => (heapRow_other b g q cs (fun e => hp.elim (fun h' => hn (e ▸ h')) (fun h' => by omega))).trans (h.block q hq hn)⟩
theorem UpS.alloc {a b : World} {F : List Nat} (h : UpS a b F) (o : Obj) : UpS a (b.alloc o) F :=
  ⟨h.os, h.tape, h.output, by simp; have := h.size; omega, fun q hq hn => (Deep.blk_alloc_lt b o q (by have := h.size; omega)).trans (h.block q hq hn)⟩
theorem UpS.drew {a b : World} {F : List Nat} (h : UpS a b F) : UpS a b.drew F := ⟨h.os, h.tape, h.output, h.size, h.block⟩
theorem UpS.ofBelow {a b : World} (F : List Nat) (h : Below a.heap.size a b) : UpS a b F := ⟨h.os, h.tape, h.output, h.size, fun q hq _ => h.block q hq⟩
theorem UpS.ofGrown {a b : World} {F : List Nat} {r : Option Nat} (h : a.grownBy b r) (hr : ∀ k, r = some k → k ∈ F ∨ a.heap.size ≤ k) : UpS a b F :=
  ⟨h.os, h.tape, h.output, h.size, fun q hq hn => h.block q hq (fun e => (hr q e.symm).elim hn (fun h' => by omega))⟩
theorem UpS.below {a b : World} {F : List Nat} {B : Nat} (h : UpS a b F) (hB : B ≤ a.heap.size) (hF : ∀ k ∈ F, B ≤ k) : Below B a b :=
  ⟨h.os, h.tape, h.output, h.size, fun q hq => h.block q (by omega) (fun hx => by have := hF q hx; omega)⟩
theorem UpS.mono {a b : World} {F G : List Nat} (h : UpS a b F) (hs : ∀ x ∈ F, x ∈ G ∨ a.heap.size ≤ x) : UpS a b G :=
  ⟨h.os, h.tape, h.output, h.size, fun q hq hn => h.block q hq (fun hx => (hs q hx).elim hn (fun h' => by omega))⟩

theorem belowRow {B : Nat} {a w : World} (h : Below B a w) {g : Nat} (hg : B ≤ g) (cs' : Array Value) : Below B a (w.setRow g cs') :=
  ⟨h.os, h.tape, h.output, by simpa [World.setRow] using h.size, fun k hk => (heapRow_other w g k cs' (by omega)).trans (h.block k hk)⟩
theorem UpS.cell {a b : World} {F : List Nat} (h : UpS a b F) {p : Addr} (hp : p.block < a.heap.size) (hn : p.block ∉ F) : b.cell? p = a.cell? p := World.cell?_of_block (h.block _ hp hn)
def img (l : List UInt8) : Array Value := (byteCells l).toArray
theorem img_size (l : List UInt8) : (img l).size = l.length := by simp [img, byteCells]
theorem img_at (l : List UInt8) (k : Nat) (h : k < l.length) : (img l)[k]? = some (.int .u8 (l[k].toNat : Int)) := by simp [img, byteCells, h]
def zeros (n : Nat) : List UInt8 := List.replicate n 0
def nums (f : List Nat) : Array Value := (f.map fun x : Nat => Value.int .i64 (x : Int)).toArray
def dCells (n L T : Nat) (v : Value) (off : Bool) (fuse : Int) : Array Value := #[.slice (some ⟨L, 0, none⟩) n n, v, .slice (some ⟨T, 0, none⟩) n n, .bool off, .int .i64 fuse]

/-- a disk at D: its pages at L, the numbers of the last writes at T, what is pending at v -/
structure DskM (B : Nat) (u : World) (D L T : Nat) (v : Value) (f : List Nat) (d : Dk) : Prop where
  blk : u.heap[D]? = some (.cells (dCells d.lies.length L T v d.off d.fuse) 104 (0, 0))
  lies : u.heap[L]? = some (.cells (img d.lies.flatten) 106 (0, 0))
  last : u.heap[T]? = some (.cells (nums f) 3 (0, 0))
  pend : u.ownsRow B 133 1025 v d.pend.length (pCells d.pend)
  flen : f.length = d.lies.length
  bD : B ≤ D
  bL : B ≤ L
  bT : B ≤ T
  dl : D ≠ L
  dt : D ≠ T
  lt : L ≠ T
  vd : v.ownBlock ≠ some D
  vl : v.ownBlock ≠ some L
  vt : v.ownBlock ≠ some T
  ok : d.Ok
structure DskX (B : Nat) (u : World) (D L T : Nat) (v : Value) (f : List Nat) (d : Dk) : Prop extends DskM B u D L T v f d where
  lst : ∀ k x, f[k]? = some x → Lst d.pend k x
/-- .. and the blocks that it takes up -/
def Dsk (B : Nat) (u : World) (D : Nat) (F : List Nat) (d : Dk) : Prop := ∃ L T v f, F = D :: L :: T :: v.ownBlock.toList ∧ DskX B u D L T v f d
section
variable {B : Nat} {u u' : World} {D L T : Nat} {v : Value} {f : List Nat} {d : Dk} {F : List Nat}
theorem DskM.lt_of (h : DskM B u D L T v f d) : D < u.heap.size ∧ L < u.heap.size ∧ T < u.heap.size :=
  ⟨(Array.getElem?_eq_some_iff.1 h.blk).1, (Array.getElem?_eq_some_iff.1 h.lies).1, (Array.getElem?_eq_some_iff.1 h.last).1⟩
theorem mem_toList {o : Option Nat} {k : Nat} (h : k ∈ o.toList) : o = some k := by cases o <;> simp_all
theorem Dsk.ge (h : Dsk B u D F d) : ∀ k ∈ F, B ≤ k ∧ k < u.heap.size := by
  obtain ⟨L, T, v, f, rfl, h⟩ := h
  intro k hk
  have := h.lt_of
  simp only [List.mem_cons] at hk
  rcases hk with rfl | rfl | rfl | hk
  · exact ⟨h.bD, this.1⟩
  · exact ⟨h.bL, this.2.1⟩
  · exact ⟨h.bT, this.2.2⟩
  · exact h.pend.lt k (mem_toList hk)
theorem ownsRow_keep {e : TypeId} {s n : Nat} {xs : List Value} (h : u.ownsRow B e s v n xs) (hb : ∀ k, v.ownBlock = some k → u'.heap[k]? = u.heap[k]?) : u'.ownsRow B e s v n xs := by
  refine ⟨h.1, ?_⟩
  rcases h.2 with h' | ⟨g, cap, cur, hv, h1, h2, h3⟩
  · exact .inl h'
  · exact .inr ⟨g, cap, cur, hv, h1, (hb g (by rw [hv]; rfl)).trans h2, h3⟩
theorem DskM.keep (h : DskM B u D L T v f d) (hb : ∀ k, k = D ∨ k = L ∨ k = T ∨ v.ownBlock = some k → u'.heap[k]? = u.heap[k]?) : DskM B u' D L T v f d :=
  { h with
    blk := (hb D (by simp)).trans h.blk
    lies := (hb L (by simp)).trans h.lies
    last := (hb T (by simp)).trans h.last
    pend := ownsRow_keep h.pend fun k hk => hb k (.inr (.inr (.inr hk))) }
theorem DskX.keep (h : DskX B u D L T v f d) (hb : ∀ k, k = D ∨ k = L ∨ k = T ∨ v.ownBlock = some k → u'.heap[k]? = u.heap[k]?) : DskX B u' D L T v f d := ⟨h.toDskM.keep hb, h.lst⟩
theorem Dsk.keep (h : Dsk B u D F d) (hb : ∀ k ∈ F, u'.heap[k]? = u.heap[k]?) : Dsk B u' D F d := by
  obtain ⟨L, T, v, f, rfl, h⟩ := h
  refine ⟨L, T, v, f, rfl, h.keep fun k hk => hb k ?_⟩
  rcases hk with rfl | rfl | rfl | hk <;> simp_all
theorem Dsk.upd {G : List Nat} (h : Dsk B u D F d) (hu : UpS u u' G) (hd : ∀ k ∈ F, k ∉ G) : Dsk B u' D F d :=
  h.keep fun k hk => hu.block k (h.ge k hk).2 (hd k hk)
theorem Dsk.below (h : Dsk B u D F d) (hb : Below u.heap.size u u') : Dsk B u' D F d := h.keep fun k hk => hb.block k (h.ge k hk).2
theorem DskM.below (h : DskM B u D L T v f d) (hb : Below u.heap.size u u') : DskM B u' D L T v f d := h.keep fun k hk => hb.block k (by
  have := h.lt_of
  rcases hk with rfl | rfl | rfl | hk
  · exact this.1
  · exact this.2.1
  · exact this.2.2
  · exact (h.pend.lt k hk).2)
theorem DskX.below (h : DskX B u D L T v f d) (hb : Below u.heap.size u u') : DskX B u' D L T v f d := ⟨h.toDskM.below hb, h.lst⟩
theorem Dsk.ok (h : Dsk B u D F d) : d.Ok := by obtain ⟨L, T, v, f, rfl, h⟩ := h; exact h.ok
theorem DskM.cell (h : DskM B u D L T v f d) (k : Nat) : u.cell? ⟨D, k, none⟩ = (dCells d.lies.length L T v d.off d.fuse)[k]? := cell_of_row u D k _ _ _ h.blk
theorem DskM.c0 (h : DskM B u D L T v f d) : u.cell? ⟨D, 0, none⟩ = some (.slice (some ⟨L, 0, none⟩) d.lies.length d.lies.length) := h.cell 0
theorem DskM.c1 (h : DskM B u D L T v f d) : u.cell? ⟨D, 1, none⟩ = some v := h.cell 1
theorem DskM.c2 (h : DskM B u D L T v f d) : u.cell? ⟨D, 2, none⟩ = some (.slice (some ⟨T, 0, none⟩) d.lies.length d.lies.length) := h.cell 2
theorem DskM.c3 (h : DskM B u D L T v f d) : u.cell? ⟨D, 3, none⟩ = some (.bool d.off) := h.cell 3
theorem DskM.c4 (h : DskM B u D L T v f d) : u.cell? ⟨D, 4, none⟩ = some (.int .i64 d.fuse) := h.cell 4
theorem DskM.fz (h : DskM B u D L T v f d) (k : Nat) : u.frozen? ⟨D, k, none⟩ = false := by simp [World.frozen?, h.blk]
/-- power and fuse set -/
theorem DskM.setOff (h : DskM B u D L T v f d) (x : Bool) : DskM B (u.setCell ⟨D, 3, none⟩ (.bool x)) D L T v f ⟨d.lies, d.pend, x, d.fuse⟩ := by
  have ho : ∀ k, k ≠ D → (u.setCell ⟨D, 3, none⟩ (.bool x)).heap[k]? = u.heap[k]? := fun k hk => Deep.blk_setCell_other u ⟨D, 3, none⟩ _ k hk
  exact { h with
    blk := by rw [heapCell_same h.blk]; simp [dCells]
    lies := (ho L (Ne.symm h.dl)).trans h.lies
    last := (ho T (Ne.symm h.dt)).trans h.last
    pend := ownsRow_keep h.pend fun k hk => ho k (fun e => h.vd (e ▸ hk))
    ok := ⟨h.ok.pos, h.ok.max, h.ok.len, h.ok.pg, h.ok.f0, h.ok.f1⟩ }
theorem DskM.setFuse (h : DskM B u D L T v f d) (x : Int) (h0 : -1 ≤ x) (h1 : x ≤ 9223372036854775807) : DskM B (u.setCell ⟨D, 4, none⟩ (.int .i64 x)) D L T v f ⟨d.lies, d.pend, d.off, x⟩ := by
  have ho : ∀ k, k ≠ D → (u.setCell ⟨D, 4, none⟩ (.int .i64 x)).heap[k]? = u.heap[k]? := fun k hk => Deep.blk_setCell_other u ⟨D, 4, none⟩ _ k hk
  exact { h with
    blk := by rw [heapCell_same h.blk]; simp [dCells]
    lies := (ho L (Ne.symm h.dl)).trans h.lies
    last := (ho T (Ne.symm h.dt)).trans h.last
    pend := ownsRow_keep h.pend fun k hk => ho k (fun e => h.vd (e ▸ hk))
    ok := ⟨h.ok.pos, h.ok.max, h.ok.len, h.ok.pg, h0, h1⟩ }
theorem DskX.setOff (h : DskX B u D L T v f d) (x : Bool) : DskX B (u.setCell ⟨D, 3, none⟩ (.bool x)) D L T v f ⟨d.lies, d.pend, x, d.fuse⟩ := ⟨h.toDskM.setOff x, h.lst⟩
theorem DskX.setFuse (h : DskX B u D L T v f d) (x : Int) (h0 : -1 ≤ x) (h1 : x ≤ 9223372036854775807) : DskX B (u.setCell ⟨D, 4, none⟩ (.int .i64 x)) D L T v f ⟨d.lies, d.pend, d.off, x⟩ := ⟨h.toDskM.setFuse x h0 h1, h.lst⟩
theorem ownsRow_len {e : TypeId} {s n : Nat} {xs : List Value} (h : u.ownsRow B e s v n xs) : ∃ ao c, v = .slice ao n c := by
  rcases h.2 with ⟨h1, h2⟩ | ⟨g, cap, cur, hv, _⟩
  · exact ⟨none, 0, by rw [h1, h2]⟩
  · exact ⟨_, _, hv⟩
end
end
section
open Go.RowKit Go.Lib
section
variable {B : Nat} {u : World} {D L T : Nat} {v : Value} {f : List Nat} {d : Dk} {F : List Nat}
theorem kDark (h : DskX B u D L T v f d) : Calls Tryd.prog 114 #[.pointer (some ⟨D, 0, none⟩)] u fun e u' => e = .returned (.int .i64 (if d.off then 40 else 0)) ∧ u' = u := by
  have h3 := h.c3
  clear h
  cases hd : d.off <;> rw [hd] at h3
  · rw [if_neg (by decide)]
    go_enter Tryd.func114, Tryd.ntmps114
    go_wp2
    go_ret
    exact ⟨rfl, rfl⟩
  · rw [if_pos rfl]
    go_enter Tryd.func114, Tryd.ntmps114
    go_wp2
    go_ret
    exact ⟨rfl, rfl⟩
theorem kPages (h : DskX B u D L T v f d) : Calls Tryd.prog 108 #[.pointer (some ⟨D, 0, none⟩)] u fun e u' => e = .returned (.int .i64 (d.lies.length : Int)) ∧ u' = u := by
  have h0 := h.c0
  clear h
  go_enter Tryd.func108, Tryd.ntmps108
  go_wp2
  go_ret
  exact ⟨rfl, rfl⟩
theorem kPending (h : DskX B u D L T v f d) : Calls Tryd.prog 42 #[.pointer (some ⟨D, 0, none⟩)] u fun e u' => e = .returned (.int .i64 (d.pend.length : Int)) ∧ u' = u := by
  have h1 := h.c1
  obtain ⟨ao, c, rfl⟩ := ownsRow_len h.pend
  clear h
  go_enter Tryd.func42, Tryd.ntmps42
  go_wp2
  go_ret
  exact ⟨rfl, rfl⟩
/-- why a page can be neither read nor written -/
def Dk.refused (d : Dk) (x : Int) : Int := if d.off then 40 else if 0 ≤ x ∧ x < (d.lies.length : Int) then 0 else 1
theorem kRefused (h : DskX B u D L T v f d) (x : Int) : Calls Tryd.prog 112 #[.pointer (some ⟨D, 0, none⟩), .int .i64 x] u fun e u' => e = .returned (.int .i64 (d.refused x)) ∧ u' = u := by
  have hk := kDark h
  have h0 := h.c0
  clear h
  unfold Dk.refused
  cases hd : d.off <;> rw [hd] at hk
  · rw [if_neg (by decide)] at hk
    rw [if_neg (by decide)]
    generalize d.lies.length = n at *
    by_cases hx0 : 0 ≤ x
    · by_cases hx1 : x < (n : Int)
      · rw [if_pos ⟨hx0, hx1⟩]
        have hy0 : ¬ x < 0 := by omega
        have hy1 : ¬ (n : Int) ≤ x := by omega
        go_enter Tryd.func112, Tryd.ntmps112
        go_wp2_with fail
        refine hk.mono ?_
        rintro e w1 ⟨rfl, hw⟩
        obtain rfl := hw.symm
        clear hw hk
        go_wp2
        go_ret
        exact ⟨rfl, rfl⟩
      · rw [if_neg (fun h => hx1 h.2)]
        have hy0 : ¬ x < 0 := by omega
        have hy1 : (n : Int) ≤ x := by omega
        go_enter Tryd.func112, Tryd.ntmps112
        go_wp2_with fail
        refine hk.mono ?_
        rintro e w1 ⟨rfl, hw⟩
        obtain rfl := hw.symm
        clear hw hk
        go_wp2
        go_ret
        exact ⟨rfl, rfl⟩
    · rw [if_neg (fun h => hx0 h.1)]
      have hy0 : x < 0 := by omega
      go_enter Tryd.func112, Tryd.ntmps112
      go_wp2_with fail
      refine hk.mono ?_
      rintro e w1 ⟨rfl, hw⟩
      obtain rfl := hw.symm
      clear hw hk
      go_wp2
      go_ret
      exact ⟨rfl, rfl⟩
  · rw [if_pos rfl] at hk
    rw [if_pos rfl]
    go_enter Tryd.func112, Tryd.ntmps112
    go_wp2_with fail
    refine hk.mono ?_
    rintro e w1 ⟨rfl, hw⟩
    obtain rfl := hw.symm
    clear hw hk
    go_wp2
    go_ret
    exact ⟨rfl, rfl⟩
/-- the fuse is asked -/
def Dk.asked (d : Dk) : Dk := if d.fuse = 0 then ⟨d.lies, d.pend, true, d.fuse⟩ else if 0 < d.fuse then ⟨d.lies, d.pend, d.off, d.fuse - 1⟩ else d
theorem kAsk (h : DskX B u D L T v f d) : Calls Tryd.prog 115 #[.pointer (some ⟨D, 0, none⟩)] u fun e u' => e = .returned (.int .i64 (if d.fuse = 0 then 40 else 0)) ∧ DskX B u' D L T v f d.asked ∧ UpS u u' [D] := by
  have h4 := h.c4
  have h3 := h.c3
  have hz3 := h.fz 3
  have hz4 := h.fz 4
  have hf0 := h.ok.f0
  have hf1 := h.ok.f1
  have HD := hide h
  clear h
  unfold Dk.asked
  by_cases hz : d.fuse = 0
  · rw [if_pos hz, if_pos hz]
    rw [hz] at h4
    go_enter Tryd.func115, Tryd.ntmps115
    go_wp2
    go_ret
    exact ⟨rfl, (unhide HD).setOff true, (UpS.refl _ _).setCell (.inl (by simp)) _⟩
  · rw [if_neg hz, if_neg hz]
    by_cases hp : 0 < d.fuse
    · rw [if_pos hp]
      have hw : wrap64 (d.fuse - 1) = d.fuse - 1 := by go_unwrap
      go_enter Tryd.func115, Tryd.ntmps115
      go_wp2
      go_ret
      refine ⟨rfl, ?_, (UpS.refl _ _).setCell (.inl (by simp)) _⟩
      exact (unhide HD).setFuse _ (by omega) (by omega)
    · rw [if_neg hp]
      go_enter Tryd.func115, Tryd.ntmps115
      go_wp2
      go_ret
      exact ⟨rfl, unhide HD, UpS.refl _ _⟩
def Dk.fused (d : Dk) (x : Int) : Dk := if d.off then d else ⟨d.lies, d.pend, d.off, max x (-1)⟩
theorem kFuse (h : DskX B u D L T v f d) (x : Int) (hx : x ≤ 9223372036854775807) : Calls Tryd.prog 19 #[.pointer (some ⟨D, 0, none⟩), .int .i64 x] u fun e u' => e = .returned (.tuple #[]) ∧ DskX B u' D L T v f (d.fused x) ∧ UpS u u' [D] := by
  have h4 := h.c4
  have h3 := h.c3
  have hz4 := h.fz 4
  have HD := hide h
  clear h
  unfold Dk.fused
  cases hd : d.off <;> rw [hd] at h3
  · rw [if_neg (by decide)]
    by_cases hp : -1 ≤ x
    · rw [Int.max_eq_left hp]
      go_enter Tryd.func19, Tryd.ntmps19
      go_wp2
      go_returns
      have hs := (unhide HD).setFuse x (by omega) (by omega)
      rw [hd] at hs
      exact ⟨rfl, hs, (UpS.refl _ _).setCell (.inl (by simp)) _⟩
    · rw [Int.max_eq_right (by omega)]
      go_enter Tryd.func19, Tryd.ntmps19
      go_wp2
      go_returns
      have hs := (unhide HD).setFuse (-1) (by omega) (by omega)
      rw [hd] at hs
      exact ⟨rfl, hs, (UpS.refl _ _).setCell (.inl (by simp)) _⟩
  · rw [if_pos rfl]
    go_enter Tryd.func19, Tryd.ntmps19
    go_wp2
    go_returns
    exact ⟨rfl, unhide HD, UpS.refl _ _⟩
end
end
section
open Go.RowKit Go.Lib
theorem size_of {P : Program} {t : TypeId} {n : Nat} (h : (P.info? t).map (·.size) = some n) (W : World) : (sizeOf t).run P W = .ok n W := by
  cases hq : P.info? t with
  | none => simp [hq] at h
  | some i => simp [sizeOf, typeInfo, hq] at h ⊢; exact h
theorem pageInfo : (Tryd.prog.info? 106).map (·.size) = some 1024 := by kernel_rfl
theorem writeInfo : (Tryd.prog.info? 133).map (·.size) = some 1025 := by kernel_rfl
theorem u8Info : (Tryd.prog.info? 5).map (·.size) = some 1 := by kernel_rfl
theorem pagesUnd : Tryd.prog.underlying 100 = some (.slice 106) := by kernel_rfl
theorem writesUnd : Tryd.prog.underlying 102 = some (.slice 133) := by kernel_rfl
theorem pageUnd : Tryd.prog.underlying 106 = some (.array (Tryd.prog.arrayLen 106) (Tryd.prog.elem 106)) := by kernel_rfl
theorem pageLen : Tryd.prog.arrayLen 106 = 1024 := by kernel_rfl
theorem pageElem (W : World) : (sizeOf (Tryd.prog.elem 106)).run Tryd.prog W = .ok 1 W := size_of (by kernel_rfl) W
theorem ixPages (L n c i : Nat) (hi : i < n) (W : World) : (Instr.indexAt 100 (.slice (some ⟨L, 0, none⟩) n c) (.int .i64 (i : Int))).run Tryd.prog W = .ok (.pointer (some ⟨L, i * 1024, none⟩)) W := by
  have he : Tryd.prog.elem 100 = 106 := by kernel_rfl
  rw [run_indexAt_slice W 100 _ _ _ _ _ (by rw [he]; exact pagesUnd), if_pos ⟨by omega, by omega⟩, he, size_of pageInfo]
  simp only [Result.andThen_ok, Int.toNat_natCast, Addr.add_mid, Nat.zero_add]
theorem ixWrites (L n c i : Nat) (hi : i < n) (W : World) : (Instr.indexAt 102 (.slice (some ⟨L, 0, none⟩) n c) (.int .i64 (i : Int))).run Tryd.prog W = .ok (.pointer (some ⟨L, i * 1025, none⟩)) W := by
  have he : Tryd.prog.elem 102 = 133 := by kernel_rfl
  rw [run_indexAt_slice W 102 _ _ _ _ _ (by rw [he]; exact writesUnd), if_pos ⟨by omega, by omega⟩, he, size_of writeInfo]
  simp only [Result.andThen_ok, Int.toNat_natCast, Addr.add_mid, Nat.zero_add]
theorem slPage (g o : Nat) (W : World) : (Instr.sliceAt 106 (.pointer (some ⟨g, o, none⟩)) none none none).run Tryd.prog W = .ok (.slice (some ⟨g, o, none⟩) 1024 1024) W := by
  rw [run_sliceAt_array_all W 106 _ pageUnd, pageElem]
  simp only [Result.andThen_ok, slicedAt, pageLen]
  rfl
theorem slPageTo (g o n : Nat) (hn : n ≤ 1024) (W : World) : (Instr.sliceAt 106 (.pointer (some ⟨g, o, none⟩)) none (some (.int .i64 (n : Int))) none).run Tryd.prog W = .ok (.slice (some ⟨g, o, none⟩) n 1024) W := by
  rw [run_sliceAt_array_h W 106 _ pageUnd .i64 n (by omega) (by rw [pageLen]; omega), pageElem]
  simp only [Result.andThen_ok, slicedAt, pageLen, Int.toNat_natCast]
  rw [if_neg (by omega), Addr.add_mid]
  rfl
section
variable {B : Nat} {u : World} {D L T : Nat} {v : Value} {f : List Nat} {d : Dk} {F : List Nat}
theorem DskM.page_at (h : DskM B u D L T v f d) (i : Nat) (hi : i < d.lies.length) : u.rangeAt L (i * 1024) (byteCells (d.lies.getD i [])) := by
  intro j x hx
  have hlen : (d.lies.getD i []).length = 1024 := h.ok.len _ (getD_mem _ _ hi _)
  have hj := (List.getElem?_eq_some_iff.1 hx).1
  rw [byteCells_length, hlen] at hj
  rw [cell_of_row u L _ _ _ _ h.lies, ← hx]
  have := flat_at d.lies h.ok.len i hi j hj
  simp only [img, byteCells, List.getElem?_toArray, List.getElem?_map, this]
theorem DskM.row_at (h : DskM B u D L T v f d) (i : Nat) (hi : i < d.pend.length) : ∃ g c, v = .slice (some ⟨g, 0, none⟩) d.pend.length c ∧ d.pend.length ≤ c ∧ u.rangeAt g (i * 1025) (wCells d.pend[i]) := by
  rcases h.pend.2 with ⟨_, h2⟩ | ⟨g, cap, cur, hv, h1, h2, h3, h4, h5, h6⟩
  · omega
  · refine ⟨g, cap, hv, h3, fun j x hx => ?_⟩
    have hl : ∀ q ∈ d.pend, q.2.length = 1024 := fun q hq => (h.ok.pg q hq).2
    have hj := (List.getElem?_eq_some_iff.1 hx).1
    rw [wCells_len _ (hl _ (List.getElem_mem hi))] at hj
    rw [cell_of_row u g _ _ _ _ h2, ← hx, ← pCells_at d.pend hl i hi j hj, ← h6, List.getElem?_take_of_lt (by omega), Array.getElem?_toList]
theorem DskM.write_at (h : DskM B u D L T v f d) (i : Nat) (hi : i < d.pend.length) : ∃ g c, v = .slice (some ⟨g, 0, none⟩) d.pend.length c ∧ d.pend.length ≤ c ∧ u.cell? ⟨g, i * 1025, none⟩ = some (.int .i64 (d.pend[i].1 : Int)) ∧ u.rangeAt g (i * 1025 + 1) (byteCells d.pend[i].2) := by
  obtain ⟨g, c, h1, h2, h3⟩ := h.row_at i hi
  have h4 := h3 0 (.int .i64 (d.pend[i].1 : Int)) (by simp [wCells])
  rw [Nat.add_zero] at h4
  refine ⟨g, c, h1, h2, h4, fun j x hx => ?_⟩
  have := h3 (j + 1) x (by simpa [wCells] using hx)
  rw [show i * 1025 + 1 + j = i * 1025 + (j + 1) from by omega]
  exact this
theorem DskM.last_at (h : DskM B u D L T v f d) (i : Nat) (hi : i < d.lies.length) : ∃ x, f[i]? = some x ∧ u.cell? ⟨T, i, none⟩ = some (.int .i64 (x : Int)) := by
  have hf : i < f.length := by rw [h.flen]; exact hi
  refine ⟨f[i], List.getElem?_eq_getElem hf, ?_⟩
  rw [cell_of_row u T _ _ _ _ h.last]
  simp [nums, hf]
theorem kNewest (h : DskX B u D L T v f d) (i : Nat) (hi : i < d.lies.length) (hm : d.pend.length ≤ 1000000000000) : Calls Tryd.prog 113 #[.pointer (some ⟨D, 0, none⟩), .int .i64 (i : Int)] u fun e u' =>
    ∃ g o, e = .returned (.pointer (some ⟨g, o, none⟩)) ∧ u' = u ∧ (g = L ∨ v.ownBlock = some g) ∧ u.rangeAt g o (byteCells (d.page i)) := by
  obtain ⟨x, hx, hcell⟩ := h.last_at i hi
  have h0 := h.c0
  have h1 := h.c1
  have h2 := h.c2
  have hl := h.lst i x hx
  have hii : (i : Int) < (d.lies.length : Int) := by omega
  cases x with
  | zero =>
    have hr := h.page_at i hi
    have hp : d.page i = d.lies.getD i [] := hl.newest_zero _
    rw [← hp] at hr
    have hix := ixPages L d.lies.length d.lies.length i hi
    clear h hl hx hp
    generalize d.lies.length = n at *
    go_enter Tryd.func113, Tryd.ntmps113
    go_wp2
    go_ret
    exact ⟨L, i * 1024, rfl, rfl, .inl rfl, hr⟩
  | succ k =>
    obtain ⟨hk, hp1, hp⟩ := hl.newest_succ (d.lies.getD i [])
    obtain ⟨g, c, hv, hc, hcw, hr⟩ := h.write_at k hk
    rw [← hp] at hr
    have hix := ixWrites g d.pend.length c k hk
    have hw : wrap64 (((k + 1 : Nat) : Int) - 1) = (k : Int) := by rw [show ((k + 1 : Nat) : Int) - 1 = (k : Int) from by omega]; go_unwrap
    have hpos : (0 : Int) < ((k + 1 : Nat) : Int) := by omega
    clear h hl hx hp hp1 hc hcw
    subst hv
    generalize ((k + 1 : Nat) : Int) = K at *
    have HR := hide hr
    clear hr
    generalize d.lies.length = n at *
    generalize d.pend.length = m at *
    go_enter Tryd.func113, Tryd.ntmps113
    go_wp2
    go_ret
    exact ⟨g, k * 1025 + 1, rfl, rfl, .inr rfl, unhide HR⟩
end
end
section
open Go.RowKit Go.Lib
theorem infoU8 : (Tryd.prog.info? 5).map (fun i => (i.zero, i.size, i.bytes)) = some (some (.int .u8 0), 1, 1) := by kernel_rfl
theorem mkBytes (n : Nat) (hn : n ≤ 281474976710656) (u : World) : (Instr.makeSlice 71 (.int .i64 (n : Int)) (.int .i64 (n : Int))).run Tryd.prog u = .ok (.slice (some ⟨u.heap.size, 0, none⟩) n n) (u.alloc (.cells (madeCells #[.int .u8 0] n) 5)) :=
  run_make_row' (P := Tryd.prog) 71 5 (.int .u8 0) 1 Tryd.underlying71 infoU8 rfl .i64 .i64 n (by omega) (by omega) u
theorem copyAll (W : World) (N g o : Nat) (cur : Array Value) (t : TypeId) (l : List UInt8) (hl : l.length = 1024) (hN : W.heap[N]? = some (.cells cur t (0, 0))) (hc : cur.size = 1024) (hr : W.rangeAt g o (byteCells l)) :
    (Builtin.copy_ #[71, 71] 3 #[.slice (some ⟨N, 0, none⟩) 1024 1024, .slice (some ⟨g, o, none⟩) 1024 1024]).run Tryd.prog W = .ok (.int .i64 1024) (W.setRow N (img l)) := by
  have hbl : (byteCells l).length = 1024 := by rw [byteCells_length, hl]
  have := run_copy_row (P := Tryd.prog) W 71 71 3 5 N 0 1024 1024 ⟨g, o, none⟩ 1024 1024 cur t (byteCells l) Tryd.underlying71 u8Info hN (by rw [hbl]; rfl) (fun j x hx => by rw [Addr.add_mid]; exact hr j x hx) (by omega) (byteCells_one l)
  rw [this, hbl, List.take_zero, List.nil_append, List.drop_of_length_le (by rw [Array.length_toList]; omega), List.append_nil]
  rfl
section
variable {B : Nat} {u : World} {D L T : Nat} {v : Value} {f : List Nat} {d : Dk} {F : List Nat}
theorem newest_len (p : List (Nat × List UInt8)) (hp : ∀ q ∈ p, q.2.length = 1024) (n : Nat) : ∀ (l : List UInt8), l.length = 1024 → (newest l p n).length = 1024 := by
  induction p with
  | nil => exact fun l h => h
  | cons q p ih =>
    intro l h
    have ih := ih (fun r hr => hp r (by simp [hr]))
    simp only [newest, List.foldl_cons] at ih ⊢
    by_cases hq : q.1 = n
    · rw [if_pos hq]; exact ih _ (hp q (by simp))
    · rw [if_neg hq]; exact ih _ h
theorem Dk.Ok.page_len (h : d.Ok) (i : Nat) (hi : i < d.lies.length) : (d.page i).length = 1024 := newest_len _ (fun q hq => (h.pg q hq).2) _ _ (h.len _ (getD_mem _ _ hi _))
set_option maxRecDepth 100000 in
theorem kReadOk (h : DskX B u D L T v f d) (i : Nat) (hi : i < d.lies.length) (hoff : d.off = false) (hm : d.pend.length ≤ 1000000000000) : Calls Tryd.prog 109 #[.pointer (some ⟨D, 0, none⟩), .int .i64 (i : Int)] u fun e u' =>
    e = .returned (.tuple #[.slice (some ⟨u.heap.size, 0, none⟩) 1024 1024, .int .i64 0]) ∧ u'.heap[u.heap.size]? = some (.cells (img (d.page i)) 5 (0, 0)) ∧ Below u.heap.size u u' ∧ u'.heap.size = u.heap.size + 1 := by
  have hk := kRefused h (i : Int)
  have e0 : d.refused (i : Int) = 0 := by rw [Dk.refused, hoff, if_neg (by decide), if_pos ⟨by omega, by omega⟩]
  rw [e0] at hk
  have HD := hide h
  have hpl := h.ok.page_len i hi
  have hmk : ∀ u : World, (Instr.makeSlice 71 (.int .i64 1024) (.int .i64 1024)).run Tryd.prog u = .ok (.slice (some ⟨u.heap.size, 0, none⟩) 1024 1024) (u.alloc (.cells (madeCells #[.int .u8 0] 1024) 5)) := mkBytes 1024 (by decide)
  clear h e0
  go_enter Tryd.func109, Tryd.ntmps109
  go_wp2_with fail
  refine hk.mono ?_
  rintro e w1 ⟨rfl, hw⟩
  obtain rfl := hw.symm
  clear hw hk
  go_wp2_with fail
  have hbel : Below u.heap.size u (u.alloc (.cells (madeCells #[.int .u8 0] 1024) 5)) := (Below.refl _ _).alloc (Nat.le_refl _) _
  have hnew : (u.alloc (.cells (madeCells #[.int .u8 0] 1024) 5)).heap[u.heap.size]? = some (.cells (madeCells #[.int .u8 0] 1024) 5 (0, 0)) := heap_alloc_new _ _
  have hsz : (u.alloc (.cells (madeCells #[.int .u8 0] 1024) 5)).heap.size = u.heap.size + 1 := by simp
  have HDW := hide ((unhide HD).below hbel)
  generalize u.alloc (.cells (madeCells #[.int .u8 0] 1024) 5) = W at *
  clear hmk
  refine (kNewest (unhide HDW) i hi hm).mono ?_
  rintro e w1 ⟨g, o, rfl, hw, hor, hr⟩
  obtain rfl := hw.symm
  clear hw
  have hcp := copyAll W u.heap.size g o _ _ (d.page i) hpl hnew (size_madeCells _ _) hr
  have hres : (W.setRow u.heap.size (img (d.page i))).heap[u.heap.size]? = some (.cells (img (d.page i)) 5 (0, 0)) := heapRow_same hnew _
  have hbel2 : Below u.heap.size u (W.setRow u.heap.size (img (d.page i))) := ⟨hbel.os, hbel.tape, hbel.output, by simpa [World.setRow] using hbel.size, fun k hk => (heapRow_other W _ k _ (by omega)).trans (hbel.block k hk)⟩
  have hsz2 : (W.setRow u.heap.size (img (d.page i))).heap.size = u.heap.size + 1 := by rw [← hsz]; simp [World.setRow]
  have HR := hide (And.intro hres (And.intro hbel2 hsz2))
  clear hres hbel2 hbel hnew hsz hsz2 hr hor
  generalize W.setRow u.heap.size (img (d.page i)) = W2 at *
  have hsl := slPage g o
  go_wp2
  go_ret2
  exact ⟨rfl, unhide HR⟩
theorem kReadBad (h : DskX B u D L T v f d) (x : Int) (c : Int) (hc : d.refused x = c) (h0 : c ≠ 0) : Calls Tryd.prog 109 #[.pointer (some ⟨D, 0, none⟩), .int .i64 x] u fun e u' =>
    e = .returned (.tuple #[.slice none 0 0, .int .i64 c]) ∧ u' = u := by
  have hk := kRefused h x
  rw [hc] at hk
  clear h hc
  go_enter Tryd.func109, Tryd.ntmps109
  go_wp2_with fail
  refine hk.mono ?_
  rintro e w1 ⟨rfl, hw⟩
  obtain rfl := hw.symm
  clear hw hk
  go_wp2
  go_ret2
  exact ⟨rfl, rfl⟩
end
end
section
open Go.RowKit
section
variable {P : Program} {ops : Array Oper} {Q : Exit → Act → World → Prop} {md : Region.Mode} {S : World → Prop} {last : Nat}
/-- whatever order is picked from here on, and S holds behind each but the last -/
def wpAnyL (P : Program) (md : Region.Mode) (ops : Array Oper) (Q : Exit → Act → World → Prop) (S : World → Prop) (last : Nat) : Nat → Array Bool → Act → World → Prop
  | 0, listed, a, w => Region.ready md ops listed = [] ∧ Q .normal a w
  | fuel + 1, listed, a, w =>
    (Region.ready md ops listed = [] → Q .normal a w) ∧
    ∀ i ∈ Region.ready md ops listed, wpOp P ops Q i (fun a' w' => (i ≠ last → S w') ∧ wpAnyL P md ops Q S last fuel (listed.setIfInBounds i true) a' w') a w
theorem wpAny_of_L : ∀ (fuel : Nat) (listed : Array Bool) (a : Act) (w : World), wpAnyL P md ops Q S last fuel listed a w → wpAny P md ops Q fuel listed a w
  | 0, _, _, _, h => h
  | fuel + 1, _, _, _, h => ⟨h.1, fun i hi => wpOp_mono (fun a' w' h' => wpAny_of_L fuel _ a' w' h'.2) (h.2 i hi)⟩
/-- y waits for x -/
def waits (md : Region.Mode) (ops : Array Oper) (y x : Nat) : Bool :=
  match ops[y]? with
  | some o => o.after.any fun e => Region.binds md e && e.on == x
  | none => false
/-- a chain of those that wait, from x to the last -/
def chained (md : Region.Mode) (ops : Array Oper) (last : Nat) : Nat → List Nat → Bool
  | x, [] => waits md ops last x
  | x, y :: r => waits md ops y x && chained md ops last y r
/-- none of them has come up -/
def unlisted (listed : Array Bool) : List Nat → Prop
  | [] => True
  | y :: r => listed.getD y true = false ∧ unlisted listed r
theorem waits_ready {listed : Array Bool} {y x : Nat} (h : waits md ops y x = true) (hx : listed.getD x true = false) : y ∉ Region.ready md ops listed := by
  intro hy
  obtain ⟨_, oy, hoy, hall⟩ := mem_ready.1 hy
  rw [waits, hoy] at h
  simp only [Array.any_eq_true] at h
  obtain ⟨k, hk, h⟩ := h
  simp only [Bool.and_eq_true, beq_iff_eq] at h
  have h1 := hall _ (Array.getElem_mem hk) h.1
  rw [h.2] at h1
  rcases Nat.lt_or_ge x listed.size with h' | h'
  · simp [h'] at hx h1; rw [hx] at h1; cases h1
  · simp [Array.getElem?_eq_none h'] at h1
theorem chained_last : ∀ (r : List Nat) (x : Nat) (listed : Array Bool), chained md ops last x r = true → listed.getD x true = false → unlisted listed r → last ∉ Region.ready md ops listed
  | [], _, _, h, hx, _ => waits_ready h hx
  | y :: r, x, listed, h, _, hu => by
    rw [chained, Bool.and_eq_true] at h
    exact chained_last r y listed h.2 hu.1 hu.2
theorem chained_keep : ∀ (r : List Nat) (x j : Nat) (listed : Array Bool), chained md ops last x r = true → listed.getD x true = false → unlisted listed r → j ∈ Region.ready md ops listed → unlisted (listed.setIfInBounds j true) r
  | [], _, _, _, _, _, _, _ => trivial
  | y :: r, x, j, listed, h, hx, hu, hj => by
    rw [chained, Bool.and_eq_true] at h
    refine ⟨?_, chained_keep r y j listed h.2 hu.1 hu.2 hj⟩
    have hne : j ≠ y := fun e => waits_ready h.1 hx (e ▸ hj)
    rw [getD_set_ne true hne]
    exact hu.1
theorem wpAnyL_first {i : Nat} {oi : Oper} {v : Value} (hi : ops[i]? = some oi) (hsel : ∀ (j : Nat) (o : Oper) cs b, ops[j]? = some o → o.op ≠ .select cs b)
    (hQ : ∀ c a w, Q (.panic c) (a.put oi.dst v) w → Q (.panic c) a w) (r : List Nat) (hc : chained md ops last i r = true) :
    ∀ (fuel : Nat) (listed : Array Bool) (a : Act) (w : World), unlisted listed r →
      (∀ j oj, ops[j]? = some oj → j ≠ i → listed.getD j true = false → (∀ e ∈ oj.after, Region.binds md e = true → e.on ≠ i) → oi.apart ops oj = true) →
      i ∈ Region.ready md ops listed → YieldsIf P ops S oi v a → S w →
      wpAnyL P md ops Q S last fuel (listed.setIfInBounds i true) (a.put oi.dst v) w → wpAnyL P md ops Q S last (fuel + 1) listed a w := by
  intro fuel
  induction fuel with
  | zero =>
    intro listed a w _ _ hr hy hS H
    refine ⟨fun h => (by rw [h] at hr; cases hr), fun j hj => ?_⟩
    by_cases hji : j = i
    · subst hji; exact hy.wpOp hi hS ⟨fun _ => hS, H⟩
    · have := ready_mono hj hji
      rw [H.1] at this
      cases this
  | succ fuel ih =>
    intro listed a w hu hfree hr hy hS H
    refine ⟨fun h => (by rw [h] at hr; cases hr), fun j hj => ?_⟩
    by_cases hji : j = i
    · subst hji; exact hy.wpOp hi hS ⟨fun _ => hS, H⟩
    · have h1 := H.2 j (ready_mono hj hji)
      obtain ⟨hjun, oj, hoj, hall⟩ := mem_ready.1 hj
      have hiun : listed.getD i true = false := (mem_ready.1 hr).1
      have hnot : ∀ e ∈ oj.after, Region.binds md e = true → e.on ≠ i := fun e he hb heq => by
        have h1 := hall e he hb
        have h0 := (mem_ready.1 hr).1
        rw [heq] at h1
        rcases Nat.lt_or_ge i listed.size with h' | h'
        · simp [h'] at h0 h1; rw [h0] at h1; cases h1
        · simp [Array.getElem?_eq_none h'] at h1
      have hjl : j ≠ last := fun e => chained_last r i listed hc hiun hu (e ▸ hj)
      have h2 := wpOp_putIf hoj (hfree j oj hoj hji hjun hnot) (fun cs b => hsel i oi cs b hi) (fun cs b => hsel j oj cs b hoj) hQ hy h1
      have hfree' : ∀ k ok, ops[k]? = some ok → k ≠ i → (listed.setIfInBounds j true).getD k true = false →
          (∀ e ∈ ok.after, Region.binds md e = true → e.on ≠ i) → oi.apart ops ok = true := fun k ok hk hki hun hno => by
        refine hfree k ok hk hki ?_ hno
        by_cases hjk : j = k
        · subst hjk; exact hjun
        · rw [getD_set_ne true hjk] at hun; exact hun
      refine wpOp_mono (fun a' w' h3 => ⟨h3.2.1, ih (listed.setIfInBounds j true) a' w' (chained_keep r i j listed hc hiun hu hj) hfree' (ready_mono hr (Ne.symm hji)) h3.1 (h3.2.1 hjl) ?_⟩) h2
      rw [Array.setIfInBounds_comm _ _ hji]
      exact h3.2.2
/-- take number i first -/
theorem wpAnyL_take (i : Nat) (d : Tmp) (v : Value) (r : List Nat) {oi : Oper} {fuel : Nat} {listed : Array Bool} {a : Act} {w : World} (hi : ops[i]? = some oi) (hd : oi.dst = some d)
    (hs : Region.noSelect ops = true) (hf : Region.free md ops listed i = true) (hr : (Region.ready md ops listed).contains i = true) (hc : chained md ops last i r = true) (hu : (r.all fun y => !listed.getD y true) = true)
    (hQ : ∀ c a w, Q (.panic c) (a.put (some d) v) w → Q (.panic c) a w) (hg : Region.wanted oi (yielded ops a.tmps) = true) (hy : ∀ u, S u → (execOp a.eval oi).run P u = .ok (.value v) u) (hS : S w)
    (h : wpAnyL P md ops Q S last fuel (listed.setIfInBounds i true) (a.put (some d) v) w) : wpAnyL P md ops Q S last (fuel + 1) listed a w := by
  have hu' : unlisted listed r := by
    clear hc
    induction r with
    | nil => trivial
    | cons y r ih =>
      simp only [List.all_cons, Bool.and_eq_true, Bool.not_eq_true'] at hu
      exact ⟨hu.1, ih hu.2⟩
  exact wpAnyL_first hi (Region.noSelect_spec hs) (by rw [hd]; exact hQ) r hc fuel listed a w hu' (Region.free_spec hi hf) (by simpa using hr) (.inl ⟨hg, hy⟩) hS (by rw [hd]; exact h)
/-- one alone may come up -/
theorem wpAnyL_one {i : Nat} {o : Oper} {fuel : Nat} {listed : Array Bool} {a : Act} {w : World} (hr : Region.ready md ops listed = [i]) (ho : ops[i]? = some o) (hg : Region.wanted o (yielded ops a.tmps) = true)
    (h : ∀ K : Act → World → Prop, (∀ a w, (i ≠ last → S w) → wpAnyL P md ops Q S last fuel (listed.setIfInBounds i true) a w → K a w) → Oper.wp P o a w K Q) : wpAnyL P md ops Q S last (fuel + 1) listed a w := by
  refine ⟨fun h0 => absurd (hr ▸ h0) (by simp), ?_⟩
  rw [hr]
  intro j hj
  obtain rfl : j = i := by simpa using hj
  refine wpOp_step ho fun K hK => ?_
  rw [if_pos hg]
  exact h K fun a w hs hw => hK a w ⟨hs, hw⟩
theorem wpAnyL_done {listed : Array Bool} {a : Act} {w : World} (hr : Region.ready md ops listed = []) (h : Q .normal a w) : ∀ fuel, wpAnyL P md ops Q S last fuel listed a w
  | 0 => ⟨hr, h⟩
  | _ + 1 => ⟨fun _ => h, by rw [hr]; simp⟩
theorem wp_region_last {id : Nat} {a : Act} {w : World} (S : World → Prop) (last : Nat) (hm : P.follows .mixedOrders = true) (hS : S w.drew)
    (h : S w.drew → wpAnyL P .any ops Q S last ops.size (Array.replicate ops.size false) a w.drew) : (Code.region id ops true).wp P Q a w :=
  wp_region_any hm (wpAny_of_L _ _ _ _ (h hS))
end
end
section
open Go.RowKit Go.Lib
theorem zero_run {P : Program} {t : TypeId} {cells : Array Value} (hz : ((P.info? t).bind (·.zero)).map (·.cells) = some cells) (w : World) : ∃ z, (zeroValue t).run P w = .ok z w ∧ z.cells = cells := by
  cases hq : P.info? t with
  | none => simp [hq] at hz
  | some i =>
    cases hz' : i.zero with
    | none => simp [hq, hz'] at hz
    | some z => exact ⟨z, by simp [zeroValue, typeInfo, hq, hz'], by simpa [hq, hz'] using hz⟩
/-- a new variable -/
theorem wpList_alloc_row {P : Program} {ops : Array Oper} {rest : List Oper} {o : Oper} {a : Act} {w : World} {Q : Exit → Act → World → Prop} (hg : o.guard = none) (t : TypeId) (ho : o.op = .alloc t) (d : Option Tmp) (hd : o.dst = d)
    (N : Nat) (hN : w.heap.size = N) (cells : Array Value) (hz : ((P.info? t).bind (·.zero)).map (·.cells) = some cells)
    (h : ∀ w', Hid (w'.heap[N]? = some (.cells cells t (0, 0))) → Hid (Below N w w') → Hid (w'.heap.size = N + 1) → wpList P ops Q rest (a.put d (.pointer (some ⟨N, 0, none⟩))) w') : wpList P ops Q (o :: rest) a w := by
  subst hd hN
  obtain ⟨z, h1, h2⟩ := zero_run hz w
  refine wpList_plain hg fun K hK => ?_
  unfold Oper.wp execOp
  simp only [ho, Sem.run_bind, Instr.alloc, h1, newVar, newRow, run_newObj_alloc, Sem.run_pure, Result.andThen_ok, h2]
  exact hK _ _ (h _ (heap_alloc_new _ _) ((Below.refl _ _).alloc (Nat.le_refl _) _) (hide (by simp)))
theorem wp_append_to {P : Program} (w : World) {o : Oper} {a : Act} {K : Act → World → Prop} {Q : Exit → Act → World → Prop} (s x : Operand) (t tn : TypeId)
    (ho : o.op = .call { callee := .builtin .append, args := #[s, x], argTypes := #[t, tn] }) (d : Option Tmp) (hd : o.dst = d) (ty : TypeId) (hty : o.type = ty) (vs vx : Value) (hs : a.eval s = vs) (hx : a.eval x = vx)
    (v' : Value) (w' : World) (hr : (Builtin.append_ #[t, tn] ty #[vs, vx]).run P w = .ok v' w') (h : K (a.put d v') w') : o.wp P a w K Q := by
  subst hd hty
  unfold Oper.wp execOp
  simp only [ho, resolve, invoke, builtin, Sem.run_bind, Sem.run_pure, Result.andThen_ok, List.map_toArray, List.map_cons, List.map_nil, hs, hx, hr]
  exact h
theorem wp_buildTo {P : Program} {o : Oper} {a : Act} {w : World} {K : Act → World → Prop} {Q : Exit → Act → World → Prop} {t : TypeId} {len : Nat} {parts : Array (Nat × Operand)} (ho : o.op = .buildSlice t len parts)
    (v : Value) (w' : World) (hr : (Instr.buildSlice t len (parts.map fun (i, x) => (i, a.eval x))).run P w = .ok v w') (d : Option Tmp) (hd : o.dst = d) (h : K (a.put d v) w') : o.wp P a w K Q := by
  subst hd
  unfold Oper.wp execOp
  simp only [ho, Sem.run_bind, hr, Result.andThen_ok, Sem.run_pure]
  exact h
theorem copy_to {P : Program} {ops : Array Oper} {rest : List Oper} {o : Oper} {a : Act} {w : World} {Q : Exit → Act → World → Prop} (hg : o.guard = none) (d x : Operand) (dT sT : TypeId) (hop : o.op = Op.call { callee := Callee.builtin Builtin.copy, args := #[d, x], argTypes := #[dT, sT] })
    (v u : Value) (hd : a.eval d = v) (hx : a.eval x = u) (ty : TypeId) (hty : o.type = ty) (v' : Value) (w' : World) (hr : (Builtin.copy_ #[dT, sT] ty #[v, u]).run P w = .ok v' w') (D : Option Tmp) (hD : o.dst = D) (h : wpList P ops Q rest (a.put D v') w') : wpList P ops Q (o :: rest) a w := by
  subst hty hD
  refine wpList_plain hg fun K hK => ?_
  unfold Oper.wp execOp
  simp only [hop, resolve, invoke, builtin, Sem.run_bind, Sem.run_pure, Result.andThen_ok, List.map_toArray, List.map_cons, List.map_nil, hd, hx, hr]
  exact hK _ _ h
theorem wp_copy_to {P : Program} {o : Oper} {a : Act} {w : World} {K : Act → World → Prop} {Q : Exit → Act → World → Prop} (d x : Operand) (dT sT : TypeId) (hop : o.op = Op.call { callee := Callee.builtin Builtin.copy, args := #[d, x], argTypes := #[dT, sT] })
    (v u : Value) (hd : a.eval d = v) (hx : a.eval x = u) (ty : TypeId) (hty : o.type = ty) (v' : Value) (w' : World) (hr : (Builtin.copy_ #[dT, sT] ty #[v, u]).run P w = .ok v' w') (D : Option Tmp) (hD : o.dst = D) (hK : K (a.put D v') w') : o.wp P a w K Q := by
  subst hty hD
  unfold Oper.wp execOp
  simp only [hop, resolve, invoke, builtin, Sem.run_bind, Sem.run_pure, Result.andThen_ok, List.map_toArray, List.map_cons, List.map_nil, hd, hx, hr]
  exact hK
theorem mk_one {P : Program} {W : World} {t e : TypeId} {s : Nat} (hs : 0 < s) (hsm : s ≤ 16777216) {i : TypeInfo} {z : Value} (hu : P.underlying t = some (.slice e)) (hi : P.info? e = some i) (hz : i.zero = some z) (hsz : i.size = s) (cells : Array Value) (hc : cells.size = s) :
    (Instr.buildSlice t 1 #[(0, .agg cells)]).run P W = .ok (.slice (some ⟨W.heap.size, 0, none⟩) 1 1) (W.alloc (.cells cells e)) := by
  refine run_buildSlice W t e 1 _ cells i z hu hi hz (by rw [hsz]; omega) (by rw [hsz]; omega) ?_
  rw [hsz]
  have := Great.fill_whole hs [Value.agg cells] ((Array.range (1 * s)).map (z.cells[· % z.cells.size]!)) (fun v hv => (by rw [List.mem_singleton.1 hv]; exact hc)) (by simp)
  simpa [Value.cells] using this
end
section
open Go.RowKit Go.Lib
theorem wZero : ((Tryd.prog.info? 133).bind (·.zero)).map (·.cells) = some (wCells (0, zeros 1024)).toArray := by kernel_rfl
theorem wSize : (Tryd.prog.info? 133).map (fun i => (i.size, i.bytes, i.zero.isSome)) = some (1025, 1032, true) := by kernel_rfl
theorem wInfo : ∃ i z, Tryd.prog.info? 133 = some i ∧ i.zero = some z ∧ i.size = 1025 ∧ i.bytes = 1032 ∧ z.cells.size = 1025 := by
  have h1 := wSize
  have h2 := wZero
  cases hq : Tryd.prog.info? 133 with
  | none => simp [hq] at h1
  | some i =>
    simp [hq] at h1 h2
    obtain ⟨a, b, c⟩ := h1
    cases hz : i.zero with
    | none => simp [hz] at c
    | some z =>
      simp [hz] at h2
      exact ⟨i, z, rfl, hz, a, b, by rw [h2, List.size_toArray]; exact wCells_len _ (List.length_replicate ..)⟩
set_option maxRecDepth 100000 in
theorem wBuild (n : Nat) : Tryd.prog.built 133 [(0, .int .i64 (n : Int))] = some (wCells (n, zeros 1024)).toArray := by kernel_rfl
theorem wCopy (W : World) (N g o n bc : Nat) (bs : List UInt8) (hb : bs.length = 1024) (hN : W.heap[N]? = some (.cells (wCells (n, zeros 1024)).toArray 133 (0, 0))) (hr : W.rangeAt g o (byteCells bs)) :
    (Builtin.copy_ #[71, 71] 3 #[.slice (some ⟨N, 1, none⟩) 1024 1024, .slice (some ⟨g, o, none⟩) 1024 bc]).run Tryd.prog W = .ok (.int .i64 1024) (W.setRow N (wCells (n, bs)).toArray) := by
  have hbl : (byteCells bs).length = 1024 := by rw [byteCells_length, hb]
  have hcl : (wCells (n, zeros 1024)).toArray.size = 1025 := by rw [List.size_toArray]; exact wCells_len _ (List.length_replicate ..)
  have := run_copy_row (P := Tryd.prog) W 71 71 3 5 N 1 1024 1024 ⟨g, o, none⟩ 1024 bc _ _ (byteCells bs) Tryd.underlying71 u8Info hN (by rw [hbl]; rfl) (fun j x hx => by rw [Addr.add_mid]; exact hr j x hx) (by omega) (byteCells_one bs)
  rw [this, hbl, List.drop_of_length_le (by rw [Array.length_toList]; omega), List.append_nil]
  rfl
def Dk.put (d : Dk) (n : Nat) (b : List UInt8) : Dk := ⟨d.lies, d.pend ++ [(n, b)], d.off, d.fuse⟩
theorem Dk.Ok.put {d : Dk} (h : d.Ok) {n : Nat} (hn : n < d.lies.length) {b : List UInt8} (hb : b.length = 1024) : (d.put n b).Ok :=
  ⟨h.pos, h.max, h.len, fun q hq => by
    rcases List.mem_append.1 hq with hq | hq
    · exact h.pg q hq
    · obtain rfl : q = (n, b) := by simpa using hq
      exact ⟨hn, hb⟩, h.f0, h.f1⟩
theorem writeUnd : Tryd.prog.underlying 133 = some (.struct (match Tryd.prog.underlying 133 with | some (.struct fs) => fs | _ => #[])) := by kernel_rfl
theorem Dk.asked_lies (d : Dk) : d.asked.lies = d.lies := by
  unfold Dk.asked
  split
  · rfl
  · split <;> rfl
theorem Dk.asked_pend (d : Dk) : d.asked.pend = d.pend := by
  unfold Dk.asked
  split
  · rfl
  · split <;> rfl
/-- the number of the write is noted -/
theorem DskM.noted {B : Nat} {u : World} {D L T : Nat} {v : Value} {f : List Nat} {d : Dk} {n : Nat} {b : List UInt8} (h : DskM B u D L T v f (d.put n b)) (hl : ∀ k x, f[k]? = some x → Lst d.pend k x) :
    DskX B (u.setCell ⟨T, n, none⟩ (.int .i64 (((d.pend.length + 1 : Nat)) : Int))) D L T v (f.set n (d.pend.length + 1)) (d.put n b) := by
  have ho : ∀ k, k ≠ T → (u.setCell ⟨T, n, none⟩ (.int .i64 (((d.pend.length + 1 : Nat)) : Int))).heap[k]? = u.heap[k]? := fun k hk => Deep.blk_setCell_other u ⟨T, n, none⟩ _ k hk
  refine ⟨{ h with
    blk := (ho D h.dt).trans h.blk
    lies := (ho L h.lt).trans h.lies
    last := by rw [heapCell_same h.last]; congr 2; simp [nums, List.map_set]
    pend := ownsRow_keep h.pend fun k hk => ho k (fun e => h.vt (e ▸ hk))
    flen := by rw [List.length_set]; exact h.flen }, fun k x hx => ?_⟩
  show Lst (d.pend ++ [(n, b)]) k x
  rw [List.getElem?_set] at hx
  by_cases hk : n = k
  · rw [if_pos hk] at hx
    subst hk
    split at hx
    · cases hx; exact Lst.put_same _ _ _
    · cases hx
  · rw [if_neg hk] at hx
    exact (hl k x hx).put_other hk b
section
variable {B : Nat} {u : World} {D L T : Nat} {v : Value} {f : List Nat} {d : Dk}
set_option maxRecDepth 100000 in
set_option maxHeartbeats 2000000 in
theorem kWriteOk (h : DskX B u D L T v f d) (hB : B ≤ u.heap.size) (n : Nat) (hn : n < d.lies.length) (hoff : d.off = false) (hfu : d.fuse ≠ 0) (hm : d.pend.length ≤ 1000000000) (bg bo bc : Nat) (bs : List UInt8) (hbs : bs.length = 1024) (hr : u.rangeAt bg bo (byteCells bs)) (hbD : bg ≠ D) :
    Calls Tryd.prog 111 #[.pointer (some ⟨D, 0, none⟩), .int .i64 (n : Int), .slice (some ⟨bg, bo, none⟩) 1024 bc] u fun e u' => e = .returned (.int .i64 0) ∧
      ∃ v' f', DskX B u' D L T v' f' (d.asked.put n bs) ∧ (v'.ownBlock = v.ownBlock ∨ ∃ g, v'.ownBlock = some g ∧ u.heap.size ≤ g) ∧ UpS u u' (D :: L :: T :: v.ownBlock.toList) := by
  have hk := kRefused h (n : Int)
  have e0 : d.refused (n : Int) = 0 := by rw [Dk.refused, hoff, if_neg (by decide), if_pos ⟨by omega, by omega⟩]
  rw [e0] at hk
  have hka := kAsk h
  rw [if_neg hfu] at hka
  have hbgu : bg < u.heap.size := by
    have := World.block_lt_of_cell? u _ (hr 0 (.int .u8 ((bs[0]'(by omega)).toNat : Int)) (by rw [bcells_at bs 0 (by omega)]))
    exact this
  have HH := hide h
  have HP : Hid (n < d.lies.length ∧ d.pend.length ≤ 1000000000 ∧ bs.length = 1024 ∧ u.rangeAt bg bo (byteCells bs) ∧ bg ≠ D ∧ B ≤ u.heap.size ∧ bg < u.heap.size) := ⟨hn, hm, hbs, hr, hbD, hB, hbgu⟩
  have hbld := wBuild n
  clear h e0 hfu hoff hn hm hbs hr hbD hB hbgu
  go_enter Tryd.func111, Tryd.ntmps111
  go_wp2_with fail
  refine hk.mono ?_
  rintro e w1 ⟨rfl, hw⟩
  obtain rfl := hw.symm
  clear hw hk
  go_wp2_with fail
  refine hka.mono ?_
  rintro e u1 ⟨rfl, hd1, hup1⟩
  clear hka
  obtain ⟨N, hN⟩ : ∃ N, N = u1.heap.size := ⟨_, rfl⟩
  have HN := hide hN
  have HD1 := hide hd1
  have HU1 := hide hup1
  clear hN hd1 hup1
  have HC0 : Hid ((wCells (n, zeros 1024)).toArray.size = 1025 ∧ (wCells (n, zeros 1024)).toArray.all (·.oneCell') = true) := ⟨by rw [List.size_toArray]; exact wCells_len _ (List.length_replicate ..), all_oneCell_toArray (wCells_one _)⟩
  have HCP := hide (fun (W : World) hh hr => wCopy W N bg bo n bc bs (unhide HP).2.2.1 hh hr)
  obtain ⟨C0, hC0⟩ : ∃ C, C = (wCells (n, zeros 1024)).toArray := ⟨_, rfl⟩
  rw [← hC0] at hbld HC0
  have HBT := hide hbld
  clear hbld
  have HE0 := hide hC0
  clear hC0
  go_wp2_with (first
    | (refine wpList_buildTo (by rfl) 133 _ (by rfl) (some 25) (by rfl) C0 (by simp only [List.map_toArray, List.map_cons, List.map_nil]; exact unhide HBT) ?_; simp only [Act.put, List.setIfInBounds_toArray, List.set_cons_zero, List.set_cons_succ])
    | (refine wpList_alloc_row (by rfl) 133 (by rfl) (some 9) (by rfl) N (by exact (unhide HN).symm) (wCells (0, zeros 1024)).toArray wZero ?_; intro W1 HX1 HB1 HS1; simp only [Act.put, List.setIfInBounds_toArray, List.set_cons_zero, List.set_cons_succ])
    | (refine wpList_store_row (by rfl) 133 (.tmp 9) (.tmp 25) (by rfl) N C0 (by rfl) (by rfl) 133 _ (unhide HX1) (by rw [(unhide HC0).1]; exact writeInfo) (by rw [(unhide HC0).1, List.size_toArray]; exact wCells_len _ (List.length_replicate ..)) (unhide HC0).2 ?_
       have HX2 := hide (heapRow_same (unhide HX1) C0)
       have HB2 := hide (belowRow (unhide HB1) (Nat.le_refl N) C0)
       have HS2 : Hid ((W1.setRow N C0).heap.size = N + 1) := (show (W1.setRow N C0).heap.size = N + 1 from by rw [← unhide HS1]; simp [World.setRow])
       generalize W1.setRow N C0 = W2 at *
       have hcp := unhide HCP W2 (by rw [unhide HX2, unhide HE0]) (fun j x hx => ((unhide HB2).cell (p := ⟨bg, bo + j, none⟩) (by show bg < N; have := unhide HN; have := (unhide HU1).size; have := (unhide HP).2.2.2.2.2.2; omega)).trans (((unhide HU1).cell (p := ⟨bg, bo + j, none⟩) (unhide HP).2.2.2.2.2.2 (by simpa using (unhide HP).2.2.2.2.1)).trans ((unhide HP).2.2.2.1 j x hx)))
       have HX3 := hide (heapRow_same (unhide HX2) (wCells (n, bs)).toArray)
       have HB3 := hide (belowRow (unhide HB2) (Nat.le_refl N) (wCells (n, bs)).toArray)
       have HS3 : Hid ((W2.setRow N (wCells (n, bs)).toArray).heap.size = N + 1) := (show (W2.setRow N (wCells (n, bs)).toArray).heap.size = N + 1 from by rw [← unhide HS2]; simp [World.setRow])
       generalize W2.setRow N (wCells (n, bs)).toArray = W3 at *
       have hsp := slPage N 1
       simp only [Act.put])
    | (refine copy_to (by rfl) (.tmp 27) (.tmp 28) 71 71 (by rfl) _ _ (by rfl) (by rfl) 3 (by rfl) _ _ hcp (some 29) (by rfl) ?_; clear hcp HX1 HB1 HS1 HX2 HB2 HS2; simp only [Act.put, List.setIfInBounds_toArray, List.set_cons_zero, List.set_cons_succ]))
  clear hsp HBT HC0 HCP HE0
  obtain ⟨i0, z0, hi, hz0, hz1, hz2, hz3⟩ := wInfo
  obtain ⟨C2, hC2⟩ : ∃ C, C = (wCells (n, bs)).toArray := ⟨_, rfl⟩
  have HC2 : Hid (C2.size = 1025 ∧ C2.toList = wCells (n, bs)) := by rw [hC2]; exact ⟨by rw [List.size_toArray]; exact wCells_len _ (unhide HP).2.2.1, rfl⟩
  rw [← hC2] at HX3
  clear hC2
  have HD3 := hide ((unhide HD1).below (by rw [← unhide HN]; exact unhide HB3))
  have hDN : D < N := by have := (unhide HD1).lt_of; have := unhide HN; omega
  have hBN : B ≤ N := by have := unhide HN; have := (unhide HU1).size; have := (unhide HP).2.2.2.2.2.1; omega
  have HLD : Hid (∀ u : World, u.rangeAt N 0 C2.toList → (Instr.loadAt 133 (.pointer (some ⟨N, 0, none⟩))).run Tryd.prog u = .ok (.agg C2) u) := by
    intro u hu
    have := run_loadAt_mid (P := Tryd.prog) u N 0 133 C2.toList _ hu writeUnd rfl (by rw [Array.length_toList, (unhide HC2).1]; exact writeInfo)
    rw [this, Array.toArray_toList]
  have HBS := hide (fun W : World => mk_one (P := Tryd.prog) (W := W) (s := 1025) (by decide) (by decide) writesUnd hi hz0 hz1 C2 (unhide HC2).1)
  have hrN : W3.rangeAt N 0 C2.toList := fun j x hx => by rw [Nat.zero_add, cell_of_row W3 N j _ _ _ (unhide HX3)]; simpa using hx
  have HA0 : Hid (W3.drew.cell? ⟨D, 1, none⟩ = some v ∧ W3.drew.frozen? ⟨D, 1, none⟩ = false ∧ W3.drew.rangeAt N 0 C2.toList) := ⟨(unhide HD3).c1, (unhide HD3).fz 1, hrN⟩
  have hsz3 : W3.drew.heap.size = N + 1 := unhide HS3
  have HA1 : Hid ((W3.drew.alloc (.cells C2 133)).cell? ⟨D, 1, none⟩ = some v ∧ (W3.drew.alloc (.cells C2 133)).frozen? ⟨D, 1, none⟩ = false ∧ (W3.drew.alloc (.cells C2 133)).rangeAt N 0 C2.toList) :=
    ⟨by rw [World.cell?_alloc_lt _ _ _ (by show D < W3.drew.heap.size; omega)]; exact (unhide HA0).1, by rw [World.frozen?_alloc_past _ _ _ (by show D < W3.drew.heap.size; omega)]; exact (unhide HA0).2.1, World.rangeAt_alloc (unhide HA0).2.2 _⟩
  have HDA := hide ((unhide HD3).below (u' := W3.drew.alloc (.cells C2 133)) ⟨rfl, rfl, rfl, by simp, fun k hk => Deep.blk_alloc_lt W3.drew _ k hk⟩)
  have hszA : (W3.drew.alloc (.cells C2 133)).heap.size = N + 2 := by
    have : (W3.drew.alloc (.cells C2 133)).heap.size = W3.drew.heap.size + 1 := by simp
    omega
  have hrA : ∀ j x, C2.toList[j]? = some x → (W3.drew.alloc (.cells C2 133)).cell? ((⟨W3.drew.heap.size, 0, none⟩ : Addr).add j) = some x := fun j x hx => by
    rw [Addr.add_mid, Nat.zero_add, cell_of_row _ W3.drew.heap.size j _ _ _ (heap_alloc_new W3.drew _)]; simpa using hx
  have hown : (W3.drew.alloc (.cells C2 133)).ownsRow B 133 1025 v d.pend.length (pCells d.pend) := by have := (unhide HDA).pend; rwa [d.asked_pend] at this
  have HUA : Hid (UpS u (W3.drew.alloc (.cells C2 133)) (D :: L :: T :: v.ownBlock.toList)) :=
    (((unhide HU1).mono (fun x hx => .inl (by have hx' : x = D := by simpa using hx
                                              simp [hx']))).trans (UpS.ofBelow [] (by rw [← unhide HN]; exact unhide HB3)) (fun x hx => by cases hx)).drew.alloc _
  obtain ⟨v', W5, hrun, hown', hgrow, hnew⟩ := run_append_own' (P := Tryd.prog) (W3.drew.alloc (.cells C2 133)) B 102 102 133 i0 z0 1025 1032 writesUnd hi hz0 hz1 hz2 hz3 (by decide) v d.pend.length (pCells d.pend) hown ⟨W3.drew.heap.size, 0, none⟩ 1 1 C2.toList (by rw [Array.length_toList, (unhide HC2).1]) hrA (by rw [(unhide HC2).2]; exact wCells_one _) (by have := (unhide HP).2.1; simp only [maxLen]; omega) (by have := (unhide HP).2.1; omega) (by omega)
  have HRUN := hide hrun
  have hvlt : ∀ k, v.ownBlock = some k → k < N := fun k hk => by have := ((unhide HD1).pend.lt k hk).2; rw [unhide HN]; exact this
  have hD5 : W5.heap[D]? = (W3.drew.alloc (.cells C2 133)).heap[D]? := hgrow.block D (by omega) (fun e => (unhide HD1).vd e.symm)
  have hN5 : W5.heap[N]? = (W3.drew.alloc (.cells C2 133)).heap[N]? := hgrow.block N (by omega) (fun e => by have := hvlt N e.symm; omega)
  have HS5 : Hid (W5.cell? ⟨D, 1, none⟩ = some v ∧ W5.frozen? ⟨D, 1, none⟩ = false ∧ W5.rangeAt N 0 C2.toList) :=
    ⟨(World.cell?_of_block (a := ⟨D, 1, none⟩) hD5).trans (unhide HA1).1, (World.frozen?_of_block (a := ⟨D, 1, none⟩) hD5).trans (unhide HA1).2.1, fun j x hx => (World.cell?_of_block (a := ⟨N, 0 + j, none⟩) hN5).trans ((unhide HA1).2.2 j x hx)⟩
  have hlt := (unhide HD1).lt_of
  have hNe := unhide HN
  have hvD : v'.ownBlock ≠ some D := fun e => hnew.elim (fun h' => (unhide HD1).vd (h' ▸ e)) (fun ⟨g, h1, h2⟩ => by rw [e] at h1; cases h1; omega)
  have hvL : v'.ownBlock ≠ some L := fun e => hnew.elim (fun h' => (unhide HD1).vl (h' ▸ e)) (fun ⟨g, h1, h2⟩ => by rw [e] at h1; cases h1; omega)
  have hvT : v'.ownBlock ≠ some T := fun e => hnew.elim (fun h' => (unhide HD1).vt (h' ▸ e)) (fun ⟨g, h1, h2⟩ => by rw [e] at h1; cases h1; omega)
  have hL5 : W5.heap[L]? = (W3.drew.alloc (.cells C2 133)).heap[L]? := hgrow.block L (by omega) (fun e => (unhide HD1).vl e.symm)
  have hT5 : W5.heap[T]? = (W3.drew.alloc (.cells C2 133)).heap[T]? := hgrow.block T (by omega) (fun e => (unhide HD1).vt e.symm)
  have hoth : ∀ k, k ≠ D → (W5.setCell ⟨D, 1, none⟩ v').heap[k]? = W5.heap[k]? := fun k hk => Deep.blk_setCell_other W5 ⟨D, 1, none⟩ _ k hk
  have HM6 : Hid (DskM B (W5.setCell ⟨D, 1, none⟩ v') D L T v' f (d.asked.put n bs)) := by
    have hd := unhide HDA
    exact ⟨by rw [heapCell_same (hD5.trans hd.blk)]; rfl, (hoth L (Ne.symm hd.dl)).trans (hL5.trans hd.lies), (hoth T (Ne.symm hd.dt)).trans (hT5.trans hd.last),
      (by
        show (W5.setCell ⟨D, 1, none⟩ v').ownsRow B 133 1025 v' (d.asked.pend ++ [(n, bs)]).length (pCells (d.asked.pend ++ [(n, bs)]))
        rw [pCells_append, d.asked_pend, List.length_append, show pCells [(n, bs)] = wCells (n, bs) from by simp [pCells], ← (unhide HC2).2]
        exact ownsRow_keep hown' fun k hk => hoth k (fun e => hvD (e ▸ hk))),
      hd.flen, hd.bD, hd.bL, hd.bT, hd.dl, hd.dt, hd.lt, hvD, hvL, hvT, hd.ok.put (by rw [d.asked_lies]; exact (unhide HP).1) (unhide HP).2.2.1⟩
  have HLS := hide (unhide HD1).lst
  have HU6 : Hid (UpS u (W5.setCell ⟨D, 1, none⟩ v') (D :: L :: T :: v.ownBlock.toList)) := ((unhide HUA).trans (UpS.ofGrown (F := v.ownBlock.toList) hgrow (fun k hk => .inl (by simp [hk]))) (fun x hx => .inl (by simp [hx]))).setCell (.inl (by simp)) _
  have HNW : Hid (v'.ownBlock = v.ownBlock ∨ ∃ g, v'.ownBlock = some g ∧ u.heap.size ≤ g) := hnew.imp id (fun ⟨g, h1, h2⟩ => ⟨g, h1, by have := (unhide HU1).size; omega⟩)
  obtain ⟨ao', c', hv'⟩ := ownsRow_len hown'
  have hone : v'.oneCell' = true := by rw [hv']; rfl
  clear hgrow hrun hnew hown hown' hoth hL5 hT5 hD5 hN5 hrA hrN hvD hvL hvT HD3 HDA HUA hvlt
  refine wp_region_last (fun u => u.cell? ⟨D, 1, none⟩ = some v ∧ u.frozen? ⟨D, 1, none⟩ = false ∧ u.rangeAt N 0 C2.toList) 10 (by kernel_rfl) (unhide HA0) fun hS => ?_
  refine wpAnyL_take 0 30 (.pointer (some ⟨D, 0, none⟩)) [] rfl rfl (by kernel_rfl) (by kernel_rfl) (by kernel_rfl) (by kernel_rfl) (by kernel_rfl) (fun _ _ _ h => h) (by rfl) (fun u _ => by go_simp) hS ?_
  simp only [Act.put, List.setIfInBounds_toArray, List.set_cons_zero, List.set_cons_succ]
  refine wpAnyL_take 1 31 (.pointer (some ⟨D, 0, none⟩)) [] rfl rfl (by kernel_rfl) (by kernel_rfl) (by kernel_rfl) (by kernel_rfl) (by kernel_rfl) (fun _ _ _ h => h) (by rfl) (fun u _ => by go_simp) hS ?_
  simp only [Act.put, List.setIfInBounds_toArray, List.set_cons_zero, List.set_cons_succ]
  refine wpAnyL_take 2 32 (.pointer (some ⟨D, 0, none⟩)) [] rfl rfl (by kernel_rfl) (by kernel_rfl) (by kernel_rfl) (by kernel_rfl) (by kernel_rfl) (fun _ _ _ h => h) (by rfl) (fun u _ => by go_simp) hS ?_
  simp only [Act.put, List.setIfInBounds_toArray, List.set_cons_zero, List.set_cons_succ]
  refine wpAnyL_take 3 33 (.pointer (some ⟨D, 1, none⟩)) [] rfl rfl (by kernel_rfl) (by kernel_rfl) (by kernel_rfl) (by kernel_rfl) (by kernel_rfl) (fun _ _ _ h => h) (by rfl) (fun u _ => by go_simp) hS ?_
  simp only [Act.put, List.setIfInBounds_toArray, List.set_cons_zero, List.set_cons_succ]
  refine wpAnyL_take 4 34 (v) [] rfl rfl (by kernel_rfl) (by kernel_rfl) (by kernel_rfl) (by kernel_rfl) (by kernel_rfl) (fun _ _ _ h => h) (by rfl) (fun u hu => by obtain ⟨s1, s2, s3⟩ := hu; go_simp) hS ?_
  simp only [Act.put, List.setIfInBounds_toArray, List.set_cons_zero, List.set_cons_succ]
  refine wpAnyL_take 5 35 (.agg C2) [] rfl rfl (by kernel_rfl) (by kernel_rfl) (by kernel_rfl) (by kernel_rfl) (by kernel_rfl) (fun _ _ _ h => h) (by rfl) (fun u hu => by obtain ⟨s1, s2, s3⟩ := hu; show Sem.run _ (do pure (Next.value (← Instr.loadAt 133 (.pointer (some ⟨N, 0, none⟩))))) u = _; simp only [Sem.run_bind, unhide HLD u s3, Result.andThen_ok, Sem.run_pure]) hS ?_
  simp only [Act.put, List.setIfInBounds_toArray, List.set_cons_zero, List.set_cons_succ]
  refine wpAnyL_one (i := 6) (by kernel_rfl) rfl (by rfl) fun K hK => ?_
  refine wp_buildTo (by rfl) _ _ (by simp only [List.map_toArray, List.map_cons, List.map_nil]; exact unhide HBS _) (some 36) (by rfl) ?_
  refine hK _ _ (fun _ => ⟨(unhide HA1).1, (unhide HA1).2.1, (unhide HA1).2.2⟩) ?_
  clear hK K hS
  have hS := unhide HA1
  simp only [Act.put, List.setIfInBounds_toArray, List.set_cons_zero, List.set_cons_succ]
  refine wpAnyL_one (i := 7) (by kernel_rfl) rfl (by rfl) fun K hK => ?_
  refine wp_append_to _ (.tmp 34) (.tmp 36) 102 102 rfl (some 37) rfl 102 rfl _ _ rfl rfl v' W5 (unhide HRUN) ?_
  refine hK _ _ (fun _ => unhide HS5) ?_
  clear hK K hS
  have hS := unhide HS5
  simp only [Act.put, List.setIfInBounds_toArray, List.set_cons_zero, List.set_cons_succ]
  refine wpAnyL_take 8 38 (.pointer (some ⟨D, 0, none⟩)) [9] rfl rfl (by kernel_rfl) (by kernel_rfl) (by kernel_rfl) (by kernel_rfl) (by kernel_rfl) (fun _ _ _ h => h) (by rfl) (fun u _ => by go_simp) hS ?_
  simp only [Act.put, List.setIfInBounds_toArray, List.set_cons_zero, List.set_cons_succ]
  refine wpAnyL_take 9 39 (.pointer (some ⟨D, 1, none⟩)) [] rfl rfl (by kernel_rfl) (by kernel_rfl) (by kernel_rfl) (by kernel_rfl) (by kernel_rfl) (fun _ _ _ h => h) (by rfl) (fun u _ => by go_simp) hS ?_
  simp only [Act.put, List.setIfInBounds_toArray, List.set_cons_zero, List.set_cons_succ]
  refine wpAnyL_one (i := 10) (by kernel_rfl) rfl (by rfl) fun K hK => ?_
  obtain ⟨s1, s2, s3⟩ := hS
  go_simp
  refine hK _ _ (fun h => absurd rfl h) ?_
  clear hK K
  refine wpAnyL_done (by kernel_rfl) ?_ _
  subst hv'
  have h6 := unhide HM6
  have c1 := h6.c1
  have c2 := h6.c2
  have hll : (d.asked.put n bs).lies.length = d.lies.length := by rw [← d.asked_lies]; rfl
  obtain ⟨x, hx, ct⟩ := h6.last_at n (by rw [hll]; exact (unhide HP).1)
  have zt : (W5.setCell ⟨D, 1, none⟩ (.slice ao' (d.pend.length + 1) c')).frozen? ⟨T, n, none⟩ = false := by simp [World.frozen?, h6.last]
  have hnl : (n : Int) < (d.lies.length : Int) := by have := (unhide HP).1; omega
  rw [hll] at c2
  clear hll hx h6 hlt hNe HS5 HRUN hsz3 hszA HA0 HA1 HBS HLD s1 s2 s3 hone hDN hBN HB3 HS3 HX3 HN HD1 HU1 HC2 hi hz0 hz1 hz2 hz3
  obtain ⟨M, hM⟩ : ∃ M, M = d.pend.length + 1 := ⟨_, rfl⟩
  rw [← hM] at c1 c2 ct zt HM6 HU6 HNW
  rw [← hM]
  have HE := hide hM
  clear hM
  generalize W5.setCell ⟨D, 1, none⟩ (.slice ao' M c') = W6 at *
  clear W5
  go_wp2
  go_region
  all_goals
    go_wp2
    go_ret
    refine ⟨rfl, _, f.set n (d.pend.length + 1), ?_, unhide HNW, ?_⟩
    · have := (unhide HM6).noted (d := d.asked) (by rw [d.asked_pend]; have := unhide HLS; rwa [d.asked_pend] at this)
      rw [d.asked_pend, ← unhide HE] at this
      rw [← unhide HE]
      exact this.keep fun _ _ => rfl
    · exact ((unhide HU6).setCell (.inl (by simp)) _).drew
end
end
section
open Go.RowKit Go.Lib
/-- bytes that lie somewhere -/
def Bs (u : World) (ao : Option Addr) (bs : List UInt8) (F : List Nat) : Prop := 0 < bs.length → ∃ g o, ao = some ⟨g, o, none⟩ ∧ g ∉ F ∧ u.rangeAt g o (byteCells bs)
def Dk.write (d : Dk) (x : Int) (bs : List UInt8) : Int × Dk :=
  if d.refused x ≠ 0 then (d.refused x, d) else if bs.length ≠ 1024 then (1, d) else if d.fuse = 0 then (40, d.asked) else (0, d.asked.put x.toNat bs)
theorem Dk.refused_zero {d : Dk} {x : Int} (h : d.refused x = 0) : d.off = false ∧ 0 ≤ x ∧ x < (d.lies.length : Int) := by
  unfold Dk.refused at h
  split at h
  · cases h
  · split at h
    · rename_i h1 h2
      exact ⟨by simpa using h1, h2⟩
    · cases h
section
variable {B : Nat} {u : World} {D L T : Nat} {v : Value} {f : List Nat} {d : Dk} {F : List Nat}
theorem kWriteBad (h : DskX B u D L T v f d) (x : Int) (c : Int) (hc : d.refused x = c) (h0 : c ≠ 0) (s : Value) : Calls Tryd.prog 111 #[.pointer (some ⟨D, 0, none⟩), .int .i64 x, s] u fun e u' => e = .returned (.int .i64 c) ∧ u' = u := by
  have hk := kRefused h x
  rw [hc] at hk
  clear h hc
  go_enter Tryd.func111, Tryd.ntmps111
  go_wp2_with fail
  refine hk.mono ?_
  rintro e w1 ⟨rfl, hw⟩
  obtain rfl := hw.symm
  clear hw hk
  go_wp2
  go_ret
  exact ⟨rfl, rfl⟩
theorem kWriteLen (h : DskX B u D L T v f d) (x : Int) (hc : d.refused x = 0) (ao : Option Addr) (n c : Nat) (hn : n ≠ 1024) : Calls Tryd.prog 111 #[.pointer (some ⟨D, 0, none⟩), .int .i64 x, .slice ao n c] u fun e u' => e = .returned (.int .i64 1) ∧ u' = u := by
  have hk := kRefused h x
  rw [hc] at hk
  have hni : ¬ (n : Int) = 1024 := by omega
  clear h hc
  go_enter Tryd.func111, Tryd.ntmps111
  go_wp2_with fail
  refine hk.mono ?_
  rintro e w1 ⟨rfl, hw⟩
  obtain rfl := hw.symm
  clear hw hk
  go_wp2
  go_ret
  exact ⟨rfl, rfl⟩
theorem kWriteFuse (h : DskX B u D L T v f d) (x : Int) (hc : d.refused x = 0) (ao : Option Addr) (c : Nat) (hf : d.fuse = 0) : Calls Tryd.prog 111 #[.pointer (some ⟨D, 0, none⟩), .int .i64 x, .slice ao 1024 c] u fun e u' => e = .returned (.int .i64 40) ∧ DskX B u' D L T v f d.asked ∧ UpS u u' [D] := by
  have hk := kRefused h x
  rw [hc] at hk
  have hka := kAsk h
  rw [if_pos hf] at hka
  clear h hc
  go_enter Tryd.func111, Tryd.ntmps111
  go_wp2_with fail
  refine hk.mono ?_
  rintro e w1 ⟨rfl, hw⟩
  obtain rfl := hw.symm
  clear hw hk
  go_wp2_with fail
  refine hka.mono ?_
  rintro e w2 ⟨rfl, hw⟩
  clear hka
  have HW := hide hw
  clear hw
  go_wp2
  go_ret
  exact ⟨rfl, unhide HW⟩
theorem kWrite (h : Dsk B u D F d) (hB : B ≤ u.heap.size) (x : Int) (ao : Option Addr) (c : Nat) (bs : List UInt8) (hs : Bs u ao bs F) (hm : d.pend.length ≤ 1000000000) :
    Calls Tryd.prog 111 #[.pointer (some ⟨D, 0, none⟩), .int .i64 x, .slice ao bs.length c] u fun e u' => e = .returned (.int .i64 (d.write x bs).1) ∧ ∃ F', Dsk B u' D F' (d.write x bs).2 ∧ UpS u u' F ∧ ∀ k ∈ F', k ∈ F ∨ u.heap.size ≤ k := by
  obtain ⟨L, T, v, f, rfl, h⟩ := h
  unfold Dk.write
  by_cases h1 : d.refused x = 0
  · rw [if_neg (fun h => h h1)]
    obtain ⟨g1, g2, g3⟩ := Dk.refused_zero h1
    by_cases h2 : bs.length = 1024
    · rw [if_neg (fun h => h h2)]
      by_cases h3 : d.fuse = 0
      · rw [if_pos h3, h2]
        refine (kWriteFuse h x h1 ao c h3).mono fun e u' ⟨he, hd, hu⟩ => ⟨he, _, ⟨L, T, v, f, rfl, hd⟩, hu.mono fun y hy => .inl (by simp_all), fun k hk => .inl hk⟩
      · rw [if_neg h3]
        obtain ⟨g, o, rfl, hg, hr⟩ := hs (by omega)
        rw [h2]
        obtain ⟨n, rfl⟩ := Int.eq_ofNat_of_zero_le g2
        refine (kWriteOk h hB n (by omega) g1 h3 hm g o c bs h2 hr (fun e => hg (by simp [e]))).mono fun e u' ⟨he, v', f', hd, hv, hu⟩ => ⟨he, _, ⟨L, T, v', f', rfl, hd⟩, hu, fun k hk => ?_⟩
        simp only [List.mem_cons] at hk ⊢
        rcases hk with h' | h' | h' | h'
        · simp [h']
        · simp [h']
        · simp [h']
        · have h' := mem_toList h'
          rcases hv with hv | ⟨q, hq, hq2⟩
          · exact .inl (.inr (.inr (.inr (by rw [← hv, h']; simp))))
          · rw [h'] at hq; cases hq; exact .inr hq2
    · rw [if_pos h2]
      refine (kWriteLen h x h1 ao _ c h2).mono fun e u' ⟨he, hu⟩ => ⟨he, _, ⟨L, T, v, f, rfl, hu ▸ h⟩, hu ▸ UpS.refl _ _, fun k hk => .inl hk⟩
  · rw [if_pos h1]
    refine (kWriteBad h x _ rfl h1 _).mono fun e u' ⟨he, hu⟩ => ⟨he, _, ⟨L, T, v, f, rfl, hu ▸ h⟩, hu ▸ UpS.refl _ _, fun k hk => .inl hk⟩
end
def Dk.blank (n : Nat) : Dk := ⟨List.replicate n (zeros 1024), [], false, -1⟩
theorem pZero : ((Tryd.prog.info? 106).bind (·.zero)).map (·.cells) = some (img (zeros 1024)) := by kernel_rfl
theorem pSize : (Tryd.prog.info? 106).map (fun i => (i.size, i.bytes, i.zero.isSome)) = some (1024, 1024, true) := by kernel_rfl
theorem zlen (n : Nat) : (zeros n).length = n := List.length_replicate ..
theorem zat (n k : Nat) (h : k < (zeros n).length) : (zeros n)[k] = 0 := List.getElem_replicate ..
theorem made_zeros (n : Nat) : madeCells (img (zeros 1024)) (n * 1024) = img (List.replicate n (zeros 1024)).flatten := by
  have hf : (List.replicate n (zeros 1024)).flatten = zeros (n * 1024) := by rw [zeros, zeros, List.flatten_replicate_replicate]
  rw [hf]
  apply Array.ext_getElem?
  intro k
  by_cases hk : k < n * 1024
  · have h1 : k % (zeros 1024).length < (zeros 1024).length := Nat.mod_lt _ (by rw [zlen]; decide)
    have h2 : k < (zeros (n * 1024)).length := by rw [zlen]; exact hk
    rw [img_at _ k h2]
    simp only [madeCells, Array.getElem?_map, Array.getElem?_range, hk, if_true, Option.map_some, img_size]
    rw [getElem!_pos _ _ (by rw [img_size]; exact h1)]
    have := img_at (zeros 1024) _ h1
    rw [Array.getElem?_eq_getElem (by rw [img_size]; exact h1)] at this
    rw [Option.some.inj this]
    congr 3
    rw [zat, zat]
  · rw [Array.getElem?_eq_none (by simp [size_madeCells]; omega), Array.getElem?_eq_none (by rw [img_size, zlen]; omega)]
theorem mkPages (n : Nat) (hn : n ≤ 4096) (W : World) : (Instr.makeSlice 100 (.int .i64 (n : Int)) (.int .i64 (n : Int))).run Tryd.prog W = .ok (.slice (some ⟨W.heap.size, 0, none⟩) n n) (W.alloc (.cells (img (List.replicate n (zeros 1024)).flatten) 106)) := by
  have h1 := pSize
  have h2 := pZero
  cases hq : Tryd.prog.info? 106 with
  | none => simp [hq] at h1
  | some i =>
    simp [hq] at h1 h2
    obtain ⟨a, b, c⟩ := h1
    cases hz : i.zero with
    | none => simp [hz] at c
    | some z =>
      simp [hz] at h2
      have hr := run_make (P := Tryd.prog) W 100 106 i z pagesUnd hq hz .i64 .i64 n n (by omega) (Int.le_refl _) (by rw [b]; omega) (by omega)
      rw [hr, a, h2, Int.toNat_natCast, made_zeros]
theorem infoInt : (Tryd.prog.info? 3).map (fun i => (i.zero, i.size, i.bytes)) = some (some (.int .i64 0), 1, 8) := by kernel_rfl
theorem mkInts (n : Nat) (hn : n ≤ 4096) (W : World) : (Instr.makeSlice 101 (.int .i64 (n : Int)) (.int .i64 (n : Int))).run Tryd.prog W = .ok (.slice (some ⟨W.heap.size, 0, none⟩) n n) (W.alloc (.cells (nums (List.replicate n 0)) 3)) := by
  rw [run_make_row' (P := Tryd.prog) 101 3 (.int .i64 0) 8 Tryd.underlying101 infoInt rfl .i64 .i64 n (by omega) (by omega) W]
  congr 4
  apply Array.ext_getElem?
  intro k
  by_cases hk : k < n
  · simp [madeCells, nums, hk, Nat.mod_one]
  · rw [Array.getElem?_eq_none (by rw [size_madeCells]; omega), Array.getElem?_eq_none (by simp [nums]; omega)]
theorem blank_ok (n : Nat) (h0 : 0 < n) (h1 : n ≤ 4096) : (Dk.blank n).Ok :=
  ⟨by simpa [Dk.blank] using h0, by simpa [Dk.blank] using h1, fun l hl => by simp only [Dk.blank] at hl; rw [(List.mem_replicate.1 hl).2]; exact List.length_replicate .., (fun _ hq => by cases hq), (by show (-1 : Int) ≤ -1; decide), (by show (-1 : Int) ≤ 9223372036854775807; decide)⟩
theorem blank_disk {W : World} {B n D L T : Nat} (h0 : 0 < n) (h1 : n ≤ 4096) (hD : W.heap[D]? = some (.cells (dCells n L T (.slice none 0 0) false (-1)) 104 (0, 0))) (hL : W.heap[L]? = some (.cells (img (List.replicate n (zeros 1024)).flatten) 106 (0, 0))) (hT : W.heap[T]? = some (.cells (nums (List.replicate n 0)) 3 (0, 0)))
    (bD : B ≤ D) (bL : B ≤ L) (bT : B ≤ T) (dl : D ≠ L) (dt : D ≠ T) (lt : L ≠ T) : Dsk B W D [D, L, T] (Dk.blank n) :=
  ⟨L, T, .slice none 0 0, List.replicate n 0, rfl, ⟨by rw [hD]; simp [Dk.blank], hL, hT, World.ownsRow_nil _ _ _ _, by simp [Dk.blank], bD, bL, bT, dl, dt, lt, by simp [Value.ownBlock], by simp [Value.ownBlock], by simp [Value.ownBlock], blank_ok n h0 h1⟩, fun k x hx => by
    have := List.mem_of_getElem? hx
    rw [(List.mem_replicate.1 this).2]
    exact Lst.nil _⟩
theorem heap3 (u : World) (x y z : Obj) : (((u.alloc x).alloc y).alloc z).drew.heap[u.heap.size]? = some x ∧ (((u.alloc x).alloc y).alloc z).drew.heap[u.heap.size + 1]? = some y ∧ (((u.alloc x).alloc y).alloc z).drew.heap[u.heap.size + 1 + 1]? = some z := by
  have e1 : (u.alloc x).heap.size = u.heap.size + 1 := by simp
  have e2 : ((u.alloc x).alloc y).heap.size = u.heap.size + 1 + 1 := by simp
  refine ⟨?_, ?_, ?_⟩
  · show (((u.alloc x).alloc y).alloc z).heap[u.heap.size]? = some x
    rw [Deep.blk_alloc_lt _ _ _ (by omega), Deep.blk_alloc_lt _ _ _ (by omega), heap_alloc_new]
  · show (((u.alloc x).alloc y).alloc z).heap[u.heap.size + 1]? = some y
    rw [Deep.blk_alloc_lt _ _ _ (by omega), ← e1, heap_alloc_new]
  · show (((u.alloc x).alloc y).alloc z).heap[u.heap.size + 1 + 1]? = some z
    rw [← e2, heap_alloc_new]
theorem below3 (u : World) (x y z : Obj) : Below u.heap.size u (((u.alloc x).alloc y).alloc z).drew := by
  have h := (((Below.refl u.heap.size u).alloc (Nat.le_refl _) x).alloc (by simp) y).alloc (by simp; omega) z
  exact ⟨h.os, h.tape, h.output, h.size, h.block⟩
set_option maxRecDepth 100000 in
set_option maxHeartbeats 2000000 in
theorem dNew (n : Nat) (h0 : 0 < n) (h1 : n ≤ 4096) (u : World) : Calls Tryd.prog 14 #[.int .i64 (n : Int)] u fun e u' => ∃ D F, e = .returned (.tuple #[.pointer (some ⟨D, 0, none⟩), .int .i64 0]) ∧ Dsk u.heap.size u' D F (Dk.blank n) ∧ Below u.heap.size u u' := by
  have hp := mkPages n h1
  have hq := mkInts n h1
  have hn0 : ¬ (n : Int) < 1 := by omega
  have hn1 : ¬ (4096 : Int) < (n : Int) := by omega
  obtain ⟨C1, hC1⟩ : ∃ C, C = img (List.replicate n (zeros 1024)).flatten := ⟨_, rfl⟩
  obtain ⟨C2, hC2⟩ : ∃ C, C = nums (List.replicate n 0) := ⟨_, rfl⟩
  rw [← hC1] at hp
  rw [← hC2] at hq
  have HC := hide (And.intro hC1 hC2)
  have H0 := hide (And.intro h0 h1)
  clear hC1 hC2 h0 h1
  go_enter Tryd.func14, Tryd.ntmps14
  go_wp2
  go_region
  · go_wp2
    go_ret2
    obtain ⟨e1, e2⟩ := unhide HC
    obtain ⟨x1, x2, x3⟩ := heap3 u (.cells C1 106) (.cells C2 3) (.cells (dCells n u.heap.size (u.heap.size + 1) (.slice none 0 0) false (-1)) 104)
    refine ⟨u.heap.size + 1 + 1, _, rfl, blank_disk (unhide H0).1 (unhide H0).2 (L := u.heap.size) (T := u.heap.size + 1) x3 (by rw [← e1]; exact x1) (by rw [← e2]; exact x2) (by omega) (by omega) (by omega) (by omega) (by omega) (by omega), below3 _ _ _ _⟩
  · go_wp2
    go_ret2
    obtain ⟨e1, e2⟩ := unhide HC
    obtain ⟨x1, x2, x3⟩ := heap3 u (.cells C2 3) (.cells C1 106) (.cells (dCells n (u.heap.size + 1) u.heap.size (.slice none 0 0) false (-1)) 104)
    refine ⟨u.heap.size + 1 + 1, _, rfl, blank_disk (unhide H0).1 (unhide H0).2 (L := u.heap.size + 1) (T := u.heap.size) x3 (by rw [← e1]; exact x2) (by rw [← e2]; exact x1) (by omega) (by omega) (by omega) (by omega) (by omega) (by omega), below3 _ _ _ _⟩
theorem dNewBad (x : Int) (hx : x < 1 ∨ 4096 < x) (u : World) : Calls Tryd.prog 14 #[.int .i64 x] u fun e u' => e = .returned (.tuple #[.pointer none, .int .i64 1]) ∧ u' = u := by
  by_cases h : x < 1
  · go_enter Tryd.func14, Tryd.ntmps14
    go_wp2
    go_ret2
    exact ⟨rfl, rfl⟩
  · have h2 : 4096 < x := hx.resolve_left h
    go_enter Tryd.func14, Tryd.ntmps14
    go_wp2
    go_ret2
    exact ⟨rfl, rfl⟩
end
section
open Go.RowKit Go.Lib
theorem wp_call_value {P : Program} {o : Oper} {a : Act} {w : World} {K : Act → World → Prop} {Q : Exit → Act → World → Prop} (f x : Operand) (ats : Array TypeId) (ho : o.op = .call { callee := .value f, args := #[x], argTypes := ats })
    (F : FuncId) (caps : Array Value) (hf : a.eval f = .func (.func F) #[] caps) (xv : Value) (hx : a.eval x = xv) (hent : ∀ args (w : World), (callFunc F args).run P w = .ok (.enter F args) w) (d : Option Tmp) (hd : o.dst = d) (v : Value) (R : World → Prop)
    (hc : Calls P F (#[xv] ++ caps) w fun e w' => e = .returned v ∧ R w') (h : ∀ w', R w' → K (a.put d v) w') : o.wp P a w K Q := by
  subst hd
  have hrun : (execOp a.eval o).run P w = .ok (.enter F (#[xv] ++ caps)) w := by
    unfold execOp
    simp only [ho, resolve, Deferred.ofValue, hf, invoke, Sem.run_bind, Sem.run_pure, Result.andThen_ok, List.map_toArray, List.map_cons, List.map_nil, hx]
    simpa using hent (#[xv] ++ caps) w
  unfold Oper.wp
  rw [hrun, Oper.upon_enter]
  refine hc.mono fun e w'' hh => ?_
  obtain ⟨rfl, hr⟩ := hh
  exact h _ hr
section
variable {B : Nat} {u : World} {D L T : Nat} {v : Value} {f : List Nat} {d : Dk}
/-- behind the first k -/
def Dk.mid (d : Dk) (s : Nat → Nat) (k : Nat) : Dk := ⟨d.landed s k, d.pend, d.off, d.fuse⟩
theorem Dk.Ok.mid (h : d.Ok) (s : Nat → Nat) (k : Nat) (hk : k ≤ d.pend.length) : (d.mid s k).Ok :=
  ⟨by show 0 < (d.landed s _).length; rw [d.landed_length]; exact h.pos, by show (d.landed s _).length ≤ _; rw [d.landed_length]; exact h.max, h.landed_len s _ hk, by
    intro q hq
    show q.1 < (d.landed s k).length ∧ _
    rw [d.landed_length]
    exact h.pg q hq, h.f0, h.f1⟩
set_option maxRecDepth 100000 in
theorem landCopy {s : Nat → Nat} {g c : Nat} {k0 : Nat} (h : DskM B u D L T (.slice (some ⟨g, 0, none⟩) d.pend.length c) f (d.mid s k0)) (k : Nat) (hk : k < d.pend.length) (m : Nat) (hm : m ≤ 1024) (pn : Nat) (hpn : pn = d.pend[k].1) :
    (Builtin.copy_ #[71, 71] 3 #[.slice (some ⟨L, pn * 1024, none⟩) m 1024, .slice (some ⟨g, k * 1025 + 1, none⟩) 1024 1024]).run Tryd.prog u = .ok (goInt m) (u.setRow L (img ((d.landed s k0).set d.pend[k].1 (d.pend[k].2.take m ++ ((d.landed s k0).getD d.pend[k].1 []).drop m)).flatten)) := by
  subst hpn
  obtain ⟨g', c', h1, _, _, h2⟩ := h.write_at k hk
  obtain ⟨rfl, _, _⟩ : g = g' ∧ d.pend.length = (d.mid s k0).pend.length ∧ c = c' := by simpa using h1
  have hok := h.ok.pg d.pend[k] (List.getElem_mem hk)
  have hlen := hok.2
  have hn : d.pend[k].1 < (d.landed s k0).length := hok.1
  have hfl := flat_len (d.landed s k0) h.ok.len
  have hcl : (byteCells (d.pend[k].2.take m)).length = m := by rw [byteCells_length, List.length_take, hlen]; omega
  have := run_copy_row (P := Tryd.prog) u 71 71 3 5 L (d.pend[k].1 * 1024) m 1024 ⟨g, k * 1025 + 1, none⟩ 1024 1024 _ _ (byteCells (d.pend[k].2.take m)) Tryd.underlying71 u8Info h.lies (by rw [hcl]; exact (Nat.min_eq_right hm).symm) (fun j x hx => by
    rw [Addr.add_mid]
    refine h2 j x ?_
    have hj := (List.getElem?_eq_some_iff.1 hx).1
    rw [hcl] at hj
    rw [← hx]
    show (byteCells d.pend[k].2)[j]? = _
    simp only [byteCells, List.map_take]
    rw [List.getElem?_take_of_lt hj]) (by rw [hcl, img_size]; show _ ≤ (d.landed s k0).flatten.length; rw [hfl]; omega) (byteCells_one _)
  rw [this, hcl]
  congr 3
  rw [← flat_set (d.landed s k0) h.ok.len d.pend[k].1 hn (d.pend[k].2.take m) m hm]
  show (byteCells (d.landed s k0).flatten).take _ ++ byteCells _ ++ (byteCells (d.landed s k0).flatten).drop _ = byteCells _
  simp only [byteCells, List.map_append, List.map_take, List.map_drop]
theorem DskM.land {s : Nat → Nat} {k : Nat} (h : DskM B u D L T v f (d.mid s k)) (hk : k < d.pend.length) (hok : d.Ok) :
    DskM B (u.setRow L (img ((d.landed s k).set d.pend[k].1 (d.pend[k].2.take (s k) ++ ((d.landed s k).getD d.pend[k].1 []).drop (s k))).flatten)) D L T v f (d.mid s (k + 1)) := by
  have hs : (d.mid s (k + 1)).lies = (d.landed s k).set d.pend[k].1 (d.pend[k].2.take (s k) ++ ((d.landed s k).getD d.pend[k].1 []).drop (s k)) := by
    show d.landed s (k + 1) = _
    simp only [Dk.landed]
    rw [List.getD_eq_getElem?_getD, List.getElem?_eq_getElem hk, Option.getD_some]
  have hll : (d.mid s (k + 1)).lies.length = (d.mid s k).lies.length := by show (d.landed s _).length = (d.landed s _).length; rw [d.landed_length, d.landed_length]
  rw [← hs]
  have ho : ∀ q, q ≠ L → (u.setRow L (img (d.mid s (k + 1)).lies.flatten)).heap[q]? = u.heap[q]? := fun q hq => heapRow_other u L q _ hq
  exact ⟨by rw [ho D h.dl, h.blk, hll]; rfl, heapRow_same h.lies _, (ho T (Ne.symm h.lt)).trans h.last, ownsRow_keep h.pend fun q hq => ho q (fun e => h.vl (e ▸ hq)), by rw [hll]; exact h.flen, h.bD, h.bL, h.bT, h.dl, h.dt, h.lt, h.vd, h.vl, h.vt, hok.mid s (k + 1) hk⟩
theorem DskM.clear (h : DskM B u D L T v f d) (n : Nat) : DskM B (u.setCell ⟨T, n, none⟩ (.int .i64 0)) D L T v (f.set n 0) d := by
  have ho : ∀ k, k ≠ T → (u.setCell ⟨T, n, none⟩ (.int .i64 0)).heap[k]? = u.heap[k]? := fun k hk => Deep.blk_setCell_other u ⟨T, n, none⟩ _ k hk
  exact { h with
    blk := (ho D h.dt).trans h.blk
    lies := (ho L h.lt).trans h.lies
    last := by rw [heapCell_same h.last]; congr 2; simp [nums, List.map_set]
    pend := ownsRow_keep h.pend fun k hk => ho k (fun e => h.vt (e ▸ hk))
    flen := by rw [List.length_set]; exact h.flen }
theorem DskM.settled {s : Nat → Nat} (h : DskM B u D L T v f (d.mid s d.pend.length)) (hz : ∀ q x : Nat, f[q]? = some x → x = 0) : DskX B (u.setCell ⟨D, 1, none⟩ (.slice none 0 0)) D L T (.slice none 0 0) (List.replicate d.lies.length 0) (d.settle s) := by
  have ho : ∀ k, k ≠ D → (u.setCell ⟨D, 1, none⟩ (.slice none 0 0)).heap[k]? = u.heap[k]? := fun k hk => Deep.blk_setCell_other u ⟨D, 1, none⟩ _ k hk
  have hfl : f.length = d.lies.length := by rw [h.flen]; exact d.landed_length s _
  have hf : f = List.replicate d.lies.length 0 := by
    rw [List.eq_replicate_iff]
    refine ⟨hfl, fun x hx => ?_⟩
    obtain ⟨q, hq, hq2⟩ := List.getElem_of_mem hx
    exact hz q x (by rw [← hq2]; exact List.getElem?_eq_getElem hq)
  refine ⟨⟨by rw [heapCell_same h.blk]; rfl, (ho L (Ne.symm h.dl)).trans h.lies, by rw [← hf]; exact (ho T (Ne.symm h.dt)).trans h.last, World.ownsRow_nil _ _ _ _, by rw [← hf]; exact h.flen, h.bD, h.bL, h.bT, h.dl, h.dt, h.lt, by simp [Value.ownBlock], by simp [Value.ownBlock], by simp [Value.ownBlock], ?_⟩, fun k x hx => ?_⟩
  · have := h.ok
    exact ⟨this.pos, this.max, this.len, (fun _ hq => by cases hq), this.f0, this.f1⟩
  · have := List.mem_of_getElem? hx
    rw [(List.mem_replicate.1 this).2]
    exact Lst.nil _
set_option maxRecDepth 100000 in
set_option maxHeartbeats 2000000 in
theorem kSettle (Fn : FuncId) (caps : Array Value) (s : Nat → Nat) (hs : ∀ i, s i ≤ 1024) (hent : ∀ args (w : World), (callFunc Fn args).run Tryd.prog w = .ok (.enter Fn args) w) (h : DskX B u D L T v f d) (hm : d.pend.length ≤ 1000000000)
    (hruns : ∀ (i : Nat) (W : World), UpS u W [D, L, T] → Calls Tryd.prog Fn (#[.int .i64 (i : Int)] ++ caps) W fun e W' => e = .returned (.int .i64 (s i : Int)) ∧ Below W.heap.size W W') :
    Calls Tryd.prog 43 #[.pointer (some ⟨D, 0, none⟩), .func (.func Fn) #[] caps] u fun e u' => e = .returned (.tuple #[]) ∧ DskX B u' D L T (.slice none 0 0) (List.replicate d.lies.length 0) (d.settle s) ∧ UpS u u' [D, L, T] := by
  obtain ⟨ao, c, hv⟩ := ownsRow_len h.pend
  have h1 := h.c1
  rw [hv] at h1
  have HH := hide h
  have hlst : Hid (∀ q x, f[q]? = some x → x = 0 ∨ ∃ j, 0 ≤ j ∧ ∃ hj : j < d.pend.length, d.pend[j].1 = q) := by
    intro q x hx
    rcases h.lst q x hx with ⟨h1, _⟩ | ⟨i, b, h1, h2, _⟩
    · exact .inl h1
    · have hi := (List.getElem?_eq_some_iff.1 h2).1
      exact .inr ⟨i, Nat.zero_le _, hi, by rw [(List.getElem?_eq_some_iff.1 h2).2]⟩
  have HV := hide hv
  have HF0 := hide h.flen
  clear h hv
  obtain ⟨m, hmm⟩ : ∃ m, m = d.pend.length := ⟨_, rfl⟩
  rw [← hmm] at h1 hm
  have HM := hide hmm
  have hmi : (m : Int) ≤ 1000000000 := by omega
  clear hmm
  go_enter Tryd.func43, Tryd.ntmps43
  go_wp2
  go_loopw [11] (fun i wr => ∃ (k : Nat) (f' : List Nat), k ≤ m ∧ i = .int .i64 k ∧ Hid (DskM B wr D L T v f' (d.mid s k) ∧ UpS u wr [D, L, T] ∧ ∀ q x, f'[q]? = some x → x = 0 ∨ ∃ j, k ≤ j ∧ ∃ hj : j < d.pend.length, d.pend[j].1 = q)) (fun i _ => m - (RowKit.intOf i).toNat)
  case atStart => exact ⟨0, f, Nat.zero_le _, rfl, (unhide HH).toDskM, UpS.refl _ _, unhide hlst⟩
  case round =>
    obtain ⟨k, f', hk, rfl, HI⟩ := hrel
    clear h1 hlst
    by_cases hlt : k < m
    · have hkm : k < d.pend.length := by rw [← unhide HM]; exact hlt
      have hki : (k : Int) < (m : Int) := by omega
      obtain ⟨hD, hU, hz⟩ := unhide HI
      obtain ⟨g, c', hvg, hcc, hw1, hw2⟩ := hD.write_at k hkm
      have hpg := hD.ok.pg d.pend[k] (List.getElem_mem hkm)
      obtain ⟨pn, hpn⟩ : ∃ pn, pn = d.pend[k].1 := ⟨_, rfl⟩
      have e1 : v = .slice (some ⟨g, 0, none⟩) m c' := by rw [hvg, unhide HM]; rfl
      subst e1
      obtain ⟨n, hn⟩ : ∃ n, n = d.lies.length := ⟨_, rfl⟩
      have hnl : (d.mid s k).lies.length = n := by rw [hn]; exact d.landed_length s k
      have c0 := hD.c0
      have c1 := hD.c1
      have c2 := hD.c2
      rw [hnl] at c0 c2
      have hw1' : wr.cell? ⟨g, k * 1025, none⟩ = some (.int .i64 (pn : Int)) := by rw [hpn]; exact hw1
      have hpn2 : pn < n := by rw [hpn, ← hnl]; exact hpg.1
      have hix := ixPages L n n pn hpn2
      have hiw := ixWrites g m c' k hlt
      have hsp := slPage g (k * 1025 + 1)
      have hst := slPageTo L (pn * 1024) (s k) (hs k)
      have HST : Hid (∀ W0 : World, (W0.cell? ⟨D, 0, none⟩ = some (.slice (some ⟨L, 0, none⟩) n n) ∧ W0.cell? ⟨g, k * 1025, none⟩ = some (.int .i64 (pn : Int)) ∧ DskM B W0 D L T (.slice (some ⟨g, 0, none⟩) d.pend.length c') f' (d.mid s k) ∧ UpS u W0 [D, L, T]) → ∀ W1 : World, Below W0.heap.size W0 W1 →
          (W1.cell? ⟨D, 0, none⟩ = some (.slice (some ⟨L, 0, none⟩) n n) ∧ W1.cell? ⟨g, k * 1025, none⟩ = some (.int .i64 (pn : Int)) ∧ DskM B W1 D L T (.slice (some ⟨g, 0, none⟩) d.pend.length c') f' (d.mid s k) ∧ UpS u W1 [D, L, T])) := by
        rintro W0 ⟨a1, a2, a3, a4⟩ W1 hb
        exact ⟨(hb.cell (World.block_lt_of_cell? W0 _ a1)).trans a1, (hb.cell (World.block_lt_of_cell? W0 _ a2)).trans a2, a3.below hb, a4.trans (UpS.ofBelow [] hb) (fun x hx => by cases hx)⟩
      have HS0 : Hid (wr.drew.cell? ⟨D, 0, none⟩ = some (.slice (some ⟨L, 0, none⟩) n n) ∧ wr.drew.cell? ⟨g, k * 1025, none⟩ = some (.int .i64 (pn : Int)) ∧ DskM B wr.drew D L T (.slice (some ⟨g, 0, none⟩) d.pend.length c') f' (d.mid s k) ∧ UpS u wr.drew [D, L, T]) := ⟨c0, hw1', by rw [← unhide HM]; exact hD.keep fun _ _ => rfl, hU.drew⟩
      have HZ := hide hz
      have HPN := hide hpn
      have HNN := hide (And.intro hn hnl)
      clear hD hU hz HI hw1 hw2 hvg hpg hcc c2 hpn hn hnl
      go_wp2
      refine wp_region_last (fun u' => u'.cell? ⟨D, 0, none⟩ = some (.slice (some ⟨L, 0, none⟩) n n) ∧ u'.cell? ⟨g, k * 1025, none⟩ = some (.int .i64 (pn : Int)) ∧ DskM B u' D L T (.slice (some ⟨g, 0, none⟩) d.pend.length c') f' (d.mid s k) ∧ UpS u u' [D, L, T]) 17 (by kernel_rfl) (unhide HS0) fun hS => ?_
      refine wpAnyL_take 0 20 (.pointer (some ⟨D, 0, none⟩)) [1, 2, 3, 8, 12] rfl rfl (by kernel_rfl) (by kernel_rfl) (by kernel_rfl) (by kernel_rfl) (by kernel_rfl) (fun _ _ _ h => h) (by rfl) (fun u _ => by go_simp) hS ?_
      simp only [Act.put, List.setIfInBounds_toArray, List.set_cons_zero, List.set_cons_succ]
      refine wpAnyL_take 1 21 (.pointer (some ⟨D, 0, none⟩)) [2, 3, 8, 12] rfl rfl (by kernel_rfl) (by kernel_rfl) (by kernel_rfl) (by kernel_rfl) (by kernel_rfl) (fun _ _ _ h => h) (by rfl) (fun u _ => by go_simp) hS ?_
      simp only [Act.put, List.setIfInBounds_toArray, List.set_cons_zero, List.set_cons_succ]
      refine wpAnyL_take 2 22 (.pointer (some ⟨D, 0, none⟩)) [3, 8, 12] rfl rfl (by kernel_rfl) (by kernel_rfl) (by kernel_rfl) (by kernel_rfl) (by kernel_rfl) (fun _ _ _ h => h) (by rfl) (fun u _ => by go_simp) hS ?_
      simp only [Act.put, List.setIfInBounds_toArray, List.set_cons_zero, List.set_cons_succ]
      refine wpAnyL_take 3 23 (.slice (some ⟨L, 0, none⟩) n n) [8, 12] rfl rfl (by kernel_rfl) (by kernel_rfl) (by kernel_rfl) (by kernel_rfl) (by kernel_rfl) (fun _ _ _ h => h) (by rfl) (fun u hu => by obtain ⟨s1, s2, s3, s4⟩ := hu; go_simp) hS ?_
      simp only [Act.put, List.setIfInBounds_toArray, List.set_cons_zero, List.set_cons_succ]
      refine wpAnyL_take 4 24 (.pointer (some ⟨g, k * 1025, none⟩)) [5, 6, 7, 8, 12] rfl rfl (by kernel_rfl) (by kernel_rfl) (by kernel_rfl) (by kernel_rfl) (by kernel_rfl) (fun _ _ _ h => h) (by rfl) (fun u _ => by go_simp) hS ?_
      simp only [Act.put, List.setIfInBounds_toArray, List.set_cons_zero, List.set_cons_succ]
      refine wpAnyL_take 5 25 (.pointer (some ⟨g, k * 1025, none⟩)) [6, 7, 8, 12] rfl rfl (by kernel_rfl) (by kernel_rfl) (by kernel_rfl) (by kernel_rfl) (by kernel_rfl) (fun _ _ _ h => h) (by rfl) (fun u _ => by go_simp) hS ?_
      simp only [Act.put, List.setIfInBounds_toArray, List.set_cons_zero, List.set_cons_succ]
      refine wpAnyL_take 6 26 (.pointer (some ⟨g, k * 1025, none⟩)) [7, 8, 12] rfl rfl (by kernel_rfl) (by kernel_rfl) (by kernel_rfl) (by kernel_rfl) (by kernel_rfl) (fun _ _ _ h => h) (by rfl) (fun u _ => by go_simp) hS ?_
      simp only [Act.put, List.setIfInBounds_toArray, List.set_cons_zero, List.set_cons_succ]
      refine wpAnyL_take 7 27 (.int .i64 (pn : Int)) [8, 12] rfl rfl (by kernel_rfl) (by kernel_rfl) (by kernel_rfl) (by kernel_rfl) (by kernel_rfl) (fun _ _ _ h => h) (by rfl) (fun u hu => by obtain ⟨s1, s2, s3, s4⟩ := hu; go_simp) hS ?_
      simp only [Act.put, List.setIfInBounds_toArray, List.set_cons_zero, List.set_cons_succ]
      refine wpAnyL_take 8 28 (.pointer (some ⟨L, pn * 1024, none⟩)) [12] rfl rfl (by kernel_rfl) (by kernel_rfl) (by kernel_rfl) (by kernel_rfl) (by kernel_rfl) (fun _ _ _ h => h) (by rfl) (fun u _ => by go_simp) hS ?_
      simp only [Act.put, List.setIfInBounds_toArray, List.set_cons_zero, List.set_cons_succ]
      refine wpAnyL_take 9 29 (.func (.func Fn) #[] caps) [11] rfl rfl (by kernel_rfl) (by kernel_rfl) (by kernel_rfl) (by kernel_rfl) (by kernel_rfl) (fun _ _ _ h => h) (by rfl) (fun u _ => by go_simp) hS ?_
      simp only [Act.put, List.setIfInBounds_toArray, List.set_cons_zero, List.set_cons_succ]
      refine wpAnyL_take 10 30 (.int .i64 (k : Int)) [11] rfl rfl (by kernel_rfl) (by kernel_rfl) (by kernel_rfl) (by kernel_rfl) (by kernel_rfl) (fun _ _ _ h => h) (by rfl) (fun u _ => by go_simp) hS ?_
      simp only [Act.put, List.setIfInBounds_toArray, List.set_cons_zero, List.set_cons_succ]
      refine wpAnyL_take 13 33 (.pointer (some ⟨g, k * 1025, none⟩)) [14, 15, 16] rfl rfl (by kernel_rfl) (by kernel_rfl) (by kernel_rfl) (by kernel_rfl) (by kernel_rfl) (fun _ _ _ h => h) (by rfl) (fun u _ => by go_simp) hS ?_
      simp only [Act.put, List.setIfInBounds_toArray, List.set_cons_zero, List.set_cons_succ]
      refine wpAnyL_take 14 34 (.pointer (some ⟨g, k * 1025, none⟩)) [15, 16] rfl rfl (by kernel_rfl) (by kernel_rfl) (by kernel_rfl) (by kernel_rfl) (by kernel_rfl) (fun _ _ _ h => h) (by rfl) (fun u _ => by go_simp) hS ?_
      simp only [Act.put, List.setIfInBounds_toArray, List.set_cons_zero, List.set_cons_succ]
      refine wpAnyL_take 15 35 (.pointer (some ⟨g, k * 1025 + 1, none⟩)) [16] rfl rfl (by kernel_rfl) (by kernel_rfl) (by kernel_rfl) (by kernel_rfl) (by kernel_rfl) (fun _ _ _ h => h) (by rfl) (fun u _ => by go_simp) hS ?_
      simp only [Act.put, List.setIfInBounds_toArray, List.set_cons_zero, List.set_cons_succ]
      refine wpAnyL_take 16 36 (.slice (some ⟨g, k * 1025 + 1, none⟩) 1024 1024) [] rfl rfl (by kernel_rfl) (by kernel_rfl) (by kernel_rfl) (by kernel_rfl) (by kernel_rfl) (fun _ _ _ h => h) (by rfl) (fun u _ => by go_simp) hS ?_
      simp only [Act.put, List.setIfInBounds_toArray, List.set_cons_zero, List.set_cons_succ]
      refine wpAnyL_one (i := 11) (by kernel_rfl) rfl (by rfl) fun K hK => ?_
      refine wp_call_value (.tmp 29) (.tmp 30) _ (by rfl) Fn caps (by rfl) (.int .i64 (k : Int)) (by rfl) hent (some 31) (by rfl) (.int .i64 (s k : Int)) _ (hruns k _ hS.2.2.2) ?_
      intro W1 hb1
      have hS1 := unhide HST _ hS W1 hb1
      refine hK _ _ (fun _ => hS1) ?_
      clear hK K hS hb1
      have hS := hS1
      clear hS1
      simp only [Act.put, List.setIfInBounds_toArray, List.set_cons_zero, List.set_cons_succ]
      refine wpAnyL_take 12 32 (.slice (some ⟨L, pn * 1024, none⟩) (s k) 1024) [] rfl rfl (by kernel_rfl) (by kernel_rfl) (by kernel_rfl) (by kernel_rfl) (by kernel_rfl) (fun _ _ _ h => h) (by rfl) (fun u _ => by go_simp) hS ?_
      simp only [Act.put, List.setIfInBounds_toArray, List.set_cons_zero, List.set_cons_succ]
      refine wpAnyL_one (i := 17) (by kernel_rfl) rfl (by rfl) fun K hK => ?_
      refine wp_copy_to (w := W1) _ _ 71 71 (by rfl) _ _ (by rfl) (by rfl) 3 (by rfl) _ _ (landCopy hS.2.2.1 k hkm (s k) (hs k) pn (unhide HPN)) (some 37) (by rfl) ?_
      refine hK _ _ (fun h => absurd rfl h) ?_
      clear hK K
      simp only [Act.put, List.setIfInBounds_toArray, List.set_cons_zero, List.set_cons_succ]
      refine wpAnyL_done (by kernel_rfl) ?_ _
      have hM1 := (DskM.land (s := s) hS.2.2.1 hkm (unhide HH).ok)
      have hU1 := hS.2.2.2.setRow (g := L) (.inl (by simp)) (img ((d.landed s k).set d.pend[k].1 (d.pend[k].2.take (s k) ++ ((d.landed s k).getD d.pend[k].1 []).drop (s k))).flatten)
      generalize W1.setRow L (img ((d.landed s k).set d.pend[k].1 (d.pend[k].2.take (s k) ++ ((d.landed s k).getD d.pend[k].1 []).drop (s k))).flatten) = W2 at *
      have hnl2 : (d.mid s (k + 1)).lies.length = n := by rw [(unhide HNN).1]; exact d.landed_length s (k + 1)
      have d2 := hM1.c2
      rw [hnl2] at d2
      obtain ⟨g', c2, hvg, _, hw1, _⟩ := hM1.write_at k hkm
      obtain ⟨rfl, _, _⟩ : g = g' ∧ d.pend.length = (d.mid s (k + 1)).pend.length ∧ c' = c2 := by simpa using hvg
      have hw1' : W2.cell? ⟨g, k * 1025, none⟩ = some (.int .i64 (pn : Int)) := by rw [unhide HPN]; exact hw1
      obtain ⟨x, _, dt⟩ := hM1.last_at pn (by rw [hnl2]; exact hpn2)
      have dz : W2.frozen? ⟨T, pn, none⟩ = false := by simp [World.frozen?, hM1.last]
      have hpi : (pn : Int) < (n : Int) := by omega
      have HM2 := hide (And.intro hM1 hU1)
      clear hM1 hU1 hS hnl2 hvg hw1 hix hiw hsp hst HST HS0 c0 c1
      go_wp2
      go_region
      all_goals
        go_wp2
        go_roundw
        case rel =>
          refine ⟨k + 1, f'.set pn 0, by omega, by go_num, ?_⟩
          refine hide ⟨?_, ((unhide HM2).2.setCell (.inl (by simp)) _).drew, fun q y hy => ?_⟩
          · have := (unhide HM2).1.clear pn
            rw [← unhide HM] at this
            exact this.keep fun _ _ => rfl
          · rw [List.getElem?_set] at hy
            by_cases hq : pn = q
            · rw [if_pos hq] at hy
              split at hy
              · cases hy; exact .inl rfl
              · cases hy
            · rw [if_neg hq] at hy
              rcases unhide HZ q y hy with h0 | ⟨j, hj, hj2, hj3⟩
              · exact .inl h0
              · refine .inr ⟨j, ?_, hj2, hj3⟩
                rcases Nat.eq_or_lt_of_le hj with e | e
                · subst e
                  exact absurd ((unhide HPN).trans hj3) hq
                · omega
        case measure => simp [RowKit.intOf]; omega
    · have hkk : k = m := by omega
      subst hkk
      obtain ⟨hD, hU, hz⟩ := unhide HI
      have c1 := hD.c1
      have z1 := hD.fz 1
      have hone : v.oneCell' = true := by rw [unhide HV]; rfl
      clear hD hU hz
      go_wp2
      go_returns
      obtain ⟨hD, hU, hz⟩ := unhide HI
      refine ⟨rfl, ?_, hU.setCell (.inl (by simp)) _⟩
      rw [unhide HM] at hD hz
      exact hD.settled fun q y hy => (hz q y hy).resolve_right (fun ⟨j, h1, h2, _⟩ => by omega)
end
end
section
open Go.RowKit Go.Lib
/-- how many bytes of the pending write i a fate lets land -/
def share (ks : List Bool) (torn cut : Int) (i : Nat) : Nat := if (i : Int) = torn then (min (max cut 0) 128).toNat * 8 else if ks.getD i false then 1024 else 0
theorem share_le (ks : List Bool) (torn cut : Int) (i : Nat) : share ks torn cut i ≤ 1024 := by
  unfold share
  split
  · omega
  · split <;> omega
/-- a list of bools that lies somewhere -/
def Ks (u : World) (ao : Option Addr) (ks : List Bool) (F : List Nat) : Prop := 0 < ks.length → ∃ g o, ao = some ⟨g, o, none⟩ ∧ g ∉ F ∧ ∀ (j : Nat) (hj : j < ks.length), u.cell? ⟨g, o + j, none⟩ = some (.bool ks[j])
theorem Ks.upd {u u' : World} {ao : Option Addr} {ks : List Bool} {F G : List Nat} (h : Ks u ao ks F) (hu : UpS u u' G) (hg : ∀ k ∈ G, k ∈ F) : Ks u' ao ks F := fun h0 => by
  obtain ⟨g, o, h1, h2, h3⟩ := h h0
  exact ⟨g, o, h1, h2, fun j hj => (hu.cell (p := ⟨g, o + j, none⟩) (World.block_lt_of_cell? u _ (h3 j hj)) (fun hx => h2 (hg _ hx))).trans (h3 j hj)⟩
def fateV (ao : Option Addr) (n c : Nat) (torn cut : Int) : Array Value := #[.slice ao n c, .int .i64 torn, .int .i64 cut]
set_option maxRecDepth 100000 in
theorem kLanding (ao : Option Addr) (ks : List Bool) (kc : Nat) (torn cut : Int) (i : Nat) (W : World) (hk : Ks W ao ks []) :
    Calls Tryd.prog 45 #[.agg (fateV ao ks.length kc torn cut), .int .i64 (i : Int)] W fun e W' => e = .returned (.int .i64 (share ks torn cut i : Int)) ∧ Below W.heap.size W W' := by
  have HB := hide ((Below.refl W.heap.size W).alloc (Nat.le_refl _) (.cells (fateV ao ks.length kc torn cut) 56))
  by_cases ht : (i : Int) = torn
  · have e : share ks torn cut i = (min (max cut 0) 128).toNat * 8 := by rw [share, if_pos ht]
    rw [e]
    clear hk e
    unfold fateV at *
    by_cases h0 : cut ≤ 0
    · rw [Int.max_eq_right h0, show (min (0 : Int) 128).toNat * 8 = 0 from rfl]
      subst ht
      rcases Int.lt_or_eq_of_le h0 with h1 | rfl
      · go_enter Tryd.func45, Tryd.ntmps45
        go_wp2
        go_ret
        exact ⟨rfl, unhide HB⟩
      · go_enter Tryd.func45, Tryd.ntmps45
        go_wp2
        go_ret
        exact ⟨rfl, unhide HB⟩
    · rw [Int.max_eq_left (by omega)]
      subst ht
      by_cases h1 : cut < 128
      · have e2 : ((min cut 128).toNat * 8 : Nat) = (cut.toNat * 8 : Nat) := by rw [Int.min_eq_left (by omega)]
        rw [e2]
        obtain ⟨c, rfl⟩ := Int.eq_ofNat_of_zero_le (show 0 ≤ cut by omega)
        have hw : wrap64 ((c : Int) * 8) = ((c * 8 : Nat) : Int) := by
          rw [show ((c * 8 : Nat) : Int) = (c : Int) * 8 from by omega]
          go_unwrap
        have hc0 : ¬ (c : Int) < 0 := by omega
        have hc1 : (0 : Int) < (c : Int) := by omega
        have hc2 : ¬ (128 : Int) < (c : Int) := by omega
        have hc3 : (0 : Int) ≤ (c : Int) := by omega
        have hc4 : (c : Int) ≤ 128 := by omega
        simp only [Int.toNat_natCast]
        go_enter Tryd.func45, Tryd.ntmps45
        go_wp2
        go_ret
        exact ⟨rfl, unhide HB⟩
      · have e2 : ((min cut 128).toNat * 8 : Nat) = 1024 := by rw [Int.min_eq_right (by omega)]; rfl
        rw [e2]
        rcases Int.lt_or_eq_of_le (show 128 ≤ cut by omega) with h2 | rfl
        · go_enter Tryd.func45, Tryd.ntmps45
          go_wp2
          go_ret
          exact ⟨rfl, unhide HB⟩
        · go_enter Tryd.func45, Tryd.ntmps45
          go_wp2
          go_ret
          exact ⟨rfl, unhide HB⟩
  · have e : share ks torn cut i = if ks.getD i false then 1024 else 0 := by rw [share, if_neg ht]
    rw [e]
    by_cases hi : i < ks.length
    · obtain ⟨g, o, rfl, _, hc⟩ := hk (by omega)
      have hci := hc i hi
      have hgd : ks.getD i false = ks[i] := by rw [List.getD_eq_getElem?_getD, List.getElem?_eq_getElem hi]; rfl
      have hii : (i : Int) < (ks.length : Int) := by omega
      have hcb : (W.alloc (.cells (fateV (some ⟨g, o, none⟩) ks.length kc torn cut) 56)).cell? ⟨g, o + i, none⟩ = some (.bool ks[i]) := by rw [World.cell?_alloc_lt _ _ _ (World.block_lt_of_cell? W _ hci)]; exact hci
      rw [hgd]
      clear hc hk hgd e hci
      unfold fateV at *
      generalize ks[i] = b at *
      cases b
      · go_enter Tryd.func45, Tryd.ntmps45
        go_wp2
        go_ret
        exact ⟨rfl, unhide HB⟩
      · go_enter Tryd.func45, Tryd.ntmps45
        go_wp2
        go_ret
        exact ⟨rfl, unhide HB⟩
    · have hgd : ks.getD i false = false := by rw [List.getD_eq_getElem?_getD, List.getElem?_eq_none (by omega)]; rfl
      rw [hgd, if_neg (by decide)]
      have hii : ¬ (i : Int) < (ks.length : Int) := by omega
      clear hk hgd e
      unfold fateV at *
      go_enter Tryd.func45, Tryd.ntmps45
      go_wp2
      go_ret
      exact ⟨rfl, unhide HB⟩
theorem kCrash1 (N : Nat) (ao : Option Addr) (ks : List Bool) (kc : Nat) (torn cut : Int) (i : Nat) (W : World) (hN : W.heap[N]? = some (.cells (fateV ao ks.length kc torn cut) 56 (0, 0))) (hk : Ks W ao ks []) :
    Calls Tryd.prog 44 #[.int .i64 (i : Int), .pointer (some ⟨N, 0, none⟩)] W fun e W' => e = .returned (.int .i64 (share ks torn cut i : Int)) ∧ Below W.heap.size W W' := by
  have hl := kLanding ao ks kc torn cut i W hk
  have c0 : W.cell? ⟨N, 0, none⟩ = some (.slice ao ks.length kc) := cell_of_row W N 0 _ _ _ hN
  have c1 : W.cell? ⟨N, 1, none⟩ = some (.int .i64 torn) := cell_of_row W N 1 _ _ _ hN
  have c2 : W.cell? ⟨N, 2, none⟩ = some (.int .i64 cut) := cell_of_row W N 2 _ _ _ hN
  clear hN hk
  generalize share ks torn cut i = S at *
  unfold fateV at *
  go_enter Tryd.func44, Tryd.ntmps44
  go_wp2_with fail
  refine hl.mono ?_
  rintro e w1 ⟨rfl, hw⟩
  have HW := hide hw
  clear hw hl
  go_wp2
  go_ret
  exact ⟨rfl, unhide HW⟩
theorem kSync1 (i : Nat) (W : World) : Calls Tryd.prog 116 #[.int .i64 (i : Int)] W fun e W' => e = .returned (.int .i64 1024) ∧ Below W.heap.size W W' := by
  go_enter Tryd.func116, Tryd.ntmps116
  go_wp2
  go_ret
  exact ⟨rfl, Below.refl _ _⟩
def Dk.crash (d : Dk) (s : Nat → Nat) : Dk := ⟨d.landed s d.pend.length, [], false, -1⟩
def Dk.sync (d : Dk) : Int × Dk := if d.off then (40, d) else if d.fuse = 0 then (40, d.asked) else (0, d.asked.settle fun _ => 1024)
theorem ent_lit {P : Program} (F : FuncId) (h : (P.funcs[F]?).map (fun fn => (fn.name == "runtime.NumGoroutine", fn.body.isNone)) = some (false, false)) (args : Array Value) (w : World) : (callFunc F args).run P w = .ok (.enter F args) w := by
  cases hq : P.funcs[F]? with
  | none => simp [hq] at h
  | some fn =>
    simp only [hq, Option.map_some, Option.some.injEq, Prod.mk.injEq] at h
    have h1 : fn.name ≠ "runtime.NumGoroutine" := by simpa using h.1
    cases hb : fn.body with
    | none => simp [hb] at h
    | some c => simp [callFunc, hq, h1, hb]
section
variable {B : Nat} {u : World} {D L T : Nat} {v : Value} {f : List Nat} {d : Dk} {F : List Nat}
set_option maxRecDepth 100000 in
set_option maxHeartbeats 1000000 in
theorem kCrashX (h : DskX B u D L T v f d) (hm : d.pend.length ≤ 1000000000) (ao : Option Addr) (ks : List Bool) (kc : Nat) (torn cut : Int) (hk : Ks u ao ks [D, L, T]) :
    Calls Tryd.prog 20 #[.pointer (some ⟨D, 0, none⟩), .agg (fateV ao ks.length kc torn cut)] u fun e u' => e = .returned (.tuple #[]) ∧ DskX B u' D L T (.slice none 0 0) (List.replicate d.lies.length 0) (d.crash (share ks torn cut)) ∧ UpS u u' [D, L, T] := by
  obtain ⟨N, hN⟩ : ∃ N, N = u.heap.size := ⟨_, rfl⟩
  have hlt := h.lt_of
  have HN := hide hN
  have HH := hide (And.intro h (And.intro hm hk))
  clear h hm hk hN
  go_enter Tryd.func20, Tryd.ntmps20
  go_wp2_with (first | (refine wpList_box_row (by rfl) 56 (.tmp 1) (by rfl) (some 3) (by rfl) N (by exact (unhide HN).symm) (fateV ao ks.length kc torn cut) (by rfl) ?_; intro W1 HX1 HB1 HS1; simp only [Act.put, List.setIfInBounds_toArray, List.set_cons_zero, List.set_cons_succ]) | fail)
  have hb1 : Below u.heap.size u W1 := by rw [← unhide HN]; exact unhide HB1
  have hD1 := (unhide HH).1.below hb1
  refine (kSettle 44 #[.pointer (some ⟨N, 0, none⟩)] (share ks torn cut) (share_le ks torn cut) (ent_lit _ (by kernel_rfl)) hD1 (unhide HH).2.1 (fun i W hW => ?_)).mono ?_
  · have hNn : N ∉ [D, L, T] := by have := unhide HN; simp; omega
    have hNs : N < W1.heap.size := by rw [unhide HS1]; omega
    refine kCrash1 N ao ks kc torn cut i W ((hW.block N hNs hNn).trans (unhide HX1)) fun h0 => ?_
    obtain ⟨g, o, h1, h2, h3⟩ := (((unhide HH).2.2.upd (UpS.ofBelow [] hb1) (fun k hk => by cases hk)).upd hW (fun k hk => hk)) h0
    exact ⟨g, o, h1, (by simp), h3⟩
  rintro e W2 ⟨rfl, hd2, hu2⟩
  have c3 := hd2.c3
  have c4 := hd2.c4
  have z3 := hd2.fz 3
  have z4 := hd2.fz 4
  have HD2 := hide hd2
  have HU2 : Hid (UpS u W2 [D, L, T]) := (UpS.ofBelow [D, L, T] hb1).trans hu2 (fun x hx => .inl hx)
  clear hd2 hu2 hD1 HX1 HB1 HS1 hb1
  go_wp2
  go_returns
  exact ⟨rfl, (((unhide HD2).setOff false).setFuse (-1) (by decide) (by decide)), ((unhide HU2).setCell (.inl (by simp)) _).setCell (.inl (by simp)) _⟩
theorem kCrash (h : Dsk B u D F d) (hm : d.pend.length ≤ 1000000000) (ao : Option Addr) (ks : List Bool) (kc : Nat) (torn cut : Int) (hk : Ks u ao ks F) :
    Calls Tryd.prog 20 #[.pointer (some ⟨D, 0, none⟩), .agg (fateV ao ks.length kc torn cut)] u fun e u' => e = .returned (.tuple #[]) ∧ ∃ F', Dsk B u' D F' (d.crash (share ks torn cut)) ∧ UpS u u' F ∧ ∀ k ∈ F', k ∈ F := by
  obtain ⟨L, T, v, f, rfl, h⟩ := h
  have hsub : ∀ k ∈ [D, L, T], k ∈ D :: L :: T :: v.ownBlock.toList := fun k hk => by simp at hk ⊢; omega
  refine (kCrashX h hm ao ks kc torn cut (fun h0 => ?_)).mono fun e u' ⟨he, hd, hu⟩ => ⟨he, _, ⟨L, T, _, _, rfl, hd⟩, hu.mono fun k hk => .inl (hsub k hk), fun k hk => hsub k hk⟩
  obtain ⟨g, o, h1, h2, h3⟩ := hk h0
  exact ⟨g, o, h1, fun hx => h2 (hsub _ hx), h3⟩
theorem kSyncOff (h : DskX B u D L T v f d) (ho : d.off = true) : Calls Tryd.prog 110 #[.pointer (some ⟨D, 0, none⟩)] u fun e u' => e = .returned (.int .i64 40) ∧ u' = u := by
  have hk := kDark h
  rw [ho, if_pos rfl] at hk
  clear h
  go_enter Tryd.func110, Tryd.ntmps110
  go_wp2_with fail
  refine hk.mono ?_
  rintro e w1 ⟨rfl, hw⟩
  obtain rfl := hw.symm
  clear hw hk
  go_wp2
  go_ret
  exact ⟨rfl, rfl⟩
theorem kSyncFuse (h : DskX B u D L T v f d) (ho : d.off = false) (hf : d.fuse = 0) : Calls Tryd.prog 110 #[.pointer (some ⟨D, 0, none⟩)] u fun e u' => e = .returned (.int .i64 40) ∧ DskX B u' D L T v f d.asked ∧ UpS u u' [D] := by
  have hk := kDark h
  rw [ho, if_neg (by decide)] at hk
  have hka := kAsk h
  rw [if_pos hf] at hka
  clear h
  go_enter Tryd.func110, Tryd.ntmps110
  go_wp2_with fail
  refine hk.mono ?_
  rintro e w1 ⟨rfl, hw⟩
  obtain rfl := hw.symm
  clear hw hk
  go_wp2_with fail
  refine hka.mono ?_
  rintro e w2 ⟨rfl, hw⟩
  have HW := hide hw
  clear hw hka
  go_wp2
  go_ret
  exact ⟨rfl, unhide HW⟩
theorem kSyncOk (h : DskX B u D L T v f d) (ho : d.off = false) (hf : d.fuse ≠ 0) (hm : d.pend.length ≤ 1000000000) : Calls Tryd.prog 110 #[.pointer (some ⟨D, 0, none⟩)] u fun e u' => e = .returned (.int .i64 0) ∧ DskX B u' D L T (.slice none 0 0) (List.replicate d.lies.length 0) (d.asked.settle fun _ => 1024) ∧ UpS u u' [D, L, T] := by
  have hk := kDark h
  rw [ho, if_neg (by decide)] at hk
  have hka := kAsk h
  rw [if_neg hf] at hka
  clear h
  go_enter Tryd.func110, Tryd.ntmps110
  go_wp2_with fail
  refine hk.mono ?_
  rintro e w1 ⟨rfl, hw⟩
  obtain rfl := hw.symm
  clear hw hk
  go_wp2_with fail
  refine hka.mono ?_
  rintro e w2 ⟨rfl, hw⟩
  have HW := hide hw
  clear hw hka
  go_wp2_with fail
  refine (kSettle 116 #[] (fun _ => 1024) (fun _ => Nat.le_refl _) (ent_lit _ (by kernel_rfl)) (unhide HW).1 (by rw [d.asked_pend]; exact hm) (fun i W _ => kSync1 i W)).mono ?_
  rintro e w3 ⟨rfl, hw⟩
  rw [d.asked_lies] at hw
  have HW3 := hide hw
  clear hw
  go_wp2
  go_ret
  exact ⟨rfl, (unhide HW3).1, ((unhide HW).2.mono (fun x hx => .inl (by simp_all))).trans (unhide HW3).2 (fun x hx => .inl hx)⟩
theorem kSync (h : Dsk B u D F d) (hm : d.pend.length ≤ 1000000000) : Calls Tryd.prog 110 #[.pointer (some ⟨D, 0, none⟩)] u fun e u' => e = .returned (.int .i64 d.sync.1) ∧ ∃ F', Dsk B u' D F' d.sync.2 ∧ UpS u u' F ∧ ∀ k ∈ F', k ∈ F := by
  obtain ⟨L, T, v, f, rfl, h⟩ := h
  have hsub : ∀ k ∈ [D, L, T], k ∈ D :: L :: T :: v.ownBlock.toList := fun k hk => by simp at hk ⊢; omega
  unfold Dk.sync
  cases ho : d.off
  · rw [if_neg (by decide)]
    by_cases hf : d.fuse = 0
    · rw [if_pos hf]
      exact (kSyncFuse h ho hf).mono fun e u' ⟨he, hd, hu⟩ => ⟨he, _, ⟨L, T, v, f, rfl, hd⟩, hu.mono fun y hy => .inl (by simp_all), fun k hk => hk⟩
    · rw [if_neg hf]
      exact (kSyncOk h ho hf hm).mono fun e u' ⟨he, hd, hu⟩ => ⟨he, _, ⟨L, T, _, _, rfl, hd⟩, hu.mono fun k hk => .inl (hsub k hk), fun k hk => hsub k hk⟩
  · rw [if_pos rfl]
    exact (kSyncOff h ho).mono fun e u' ⟨he, hu⟩ => ⟨he, _, ⟨L, T, v, f, rfl, hu ▸ h⟩, hu ▸ UpS.refl _ _, fun k hk => hk⟩
end
end
section
open Go.RowKit Go.Lib
def str (b : List UInt8) : Value := .string ⟨b.toArray⟩
def strs (l : List (List UInt8)) : Array Value := (l.map str).toArray
theorem infoStr : (Tryd.prog.info? 9).map (fun i => (i.zero, i.size, i.bytes)) = some (some (.string .empty), 1, 16) := by kernel_rfl
theorem mkStrs (n : Nat) (hn : n ≤ 1000000000000) (W : World) : (Instr.makeSlice 38 (.int .i64 (n : Int)) (.int .i64 (n : Int))).run Tryd.prog W = .ok (.slice (some ⟨W.heap.size, 0, none⟩) n n) (W.alloc (.cells (List.replicate n (Value.string .empty)).toArray 9)) := by
  rw [run_make_row' (P := Tryd.prog) 38 9 (.string .empty) 16 Tryd.underlying38 infoStr rfl .i64 .i64 n (by omega) (by omega) W]
  congr 4
  apply Array.ext_getElem?
  intro k
  by_cases hk : k < n
  · simp [madeCells, hk, Nat.mod_one]
  · rw [Array.getElem?_eq_none (by rw [size_madeCells]; omega), Array.getElem?_eq_none (by simp; omega)]
theorem conv_range {u : World} {g o : Nat} {bs : List UInt8} (h : u.rangeAt g o (byteCells bs)) (n cap : Nat) (hn : n = bs.length) : (convert 71 9 (.slice (some ⟨g, o, none⟩) n cap)).run Tryd.prog u = .ok (.string ⟨bs.toArray⟩) u := by
  subst hn
  refine run_convert_bytes_back u 71 9 5 ⟨g, o, none⟩ cap bs Tryd.underlying71 Tryd.underlying5 Tryd.underlying9 fun j hj => ?_
  rw [Addr.add_mid]
  exact h j _ (bcells_at bs j hj)
theorem row_step (l : List (List UInt8)) (k : Nat) (hk : k < l.length) (x : List UInt8) (hx : x = l.getD k []) :
    (((l.take k).map str ++ List.replicate (l.length - k) (Value.string .empty)).toArray.setIfInBounds k (.string ⟨x.toArray⟩)) = ((l.take (k + 1)).map str ++ List.replicate (l.length - (k + 1)) (Value.string .empty)).toArray := by
  have e1 : l.length - k = (l.length - (k + 1)) + 1 := by omega
  have e2 : (((l.take k).map str).length) = k := by simp; omega
  have e3 : l.take (k + 1) = l.take k ++ [x] := by
    rw [hx, List.take_add_one, List.getD_eq_getElem?_getD, List.getElem?_eq_getElem hk]
    rfl
  rw [List.setIfInBounds_toArray, List.set_append_right _ _ (by omega), e2, Nat.sub_self, e1, List.replicate_succ, List.set_cons_zero, e3, List.map_append, List.append_assoc]
  rfl
section
variable {B : Nat} {u : World} {D L T : Nat} {v : Value} {f : List Nat} {d : Dk} {F : List Nat}
set_option maxRecDepth 100000 in
set_option maxHeartbeats 1000000 in
theorem kDurable (h : DskX B u D L T v f d) : Calls Tryd.prog 18 #[.pointer (some ⟨D, 0, none⟩)] u fun e u' =>
    e = .returned (.slice (some ⟨u.heap.size, 0, none⟩) d.lies.length d.lies.length) ∧ u'.heap[u.heap.size]? = some (.cells (strs d.lies) 9 (0, 0)) ∧ Below u.heap.size u u' ∧ u'.heap.size = u.heap.size + 1 := by
  obtain ⟨N, hN⟩ : ∃ N, N = u.heap.size := ⟨_, rfl⟩
  obtain ⟨n, hn⟩ : ∃ n, n = d.lies.length := ⟨_, rfl⟩
  have hn1 : n ≤ 4096 := by rw [hn]; exact h.ok.max
  have c0 := h.c0
  have hmk := mkStrs n (by omega) u
  rw [← hN] at hmk
  obtain ⟨C0, hC0⟩ : ∃ C, C = (List.replicate n (Value.string .empty)).toArray := ⟨_, rfl⟩
  rw [← hC0] at hmk
  have HC0 := hide hC0
  clear hC0
  have hDlt : D < u.heap.size := h.lt_of.1
  have HH := hide h
  have HNN := hide hn
  have HN := hide hN
  rw [← hn] at c0
  rw [← hn, ← hN]
  clear h hN hn
  go_enter Tryd.func18, Tryd.ntmps18
  go_wp2
  have HI0 : Hid (Below N u (u.alloc (.cells C0 9)) ∧ (u.alloc (.cells C0 9)).heap[N]? = some (.cells ((d.lies.take 0).map str ++ List.replicate (d.lies.length - 0) (Value.string .empty)).toArray 9 (0, 0)) ∧ (u.alloc (.cells C0 9)).heap.size = N + 1) := by
    have e1 : (u.alloc (.cells C0 9)).heap[u.heap.size]? = some (.cells C0 9 (0, 0)) := heap_alloc_new _ _
    refine ⟨(Below.refl _ _).alloc (by rw [unhide HN]; exact Nat.le_refl _) _, ?_, by rw [unhide HN]; simp⟩
    rw [unhide HN, e1, unhide HC0, ← unhide HNN]
    rfl
  generalize u.alloc (.cells C0 9) = W0 at *
  go_loopw [18] (fun i wr => ∃ k : Nat, k ≤ n ∧ i = .int .i64 k ∧ Hid (Below N u wr ∧ wr.heap[N]? = some (.cells ((d.lies.take k).map str ++ List.replicate (d.lies.length - k) (Value.string .empty)).toArray 9 (0, 0)) ∧ wr.heap.size = N + 1)) (fun i _ => n - (RowKit.intOf i).toNat)
  case atStart => exact ⟨0, Nat.zero_le _, rfl, HI0⟩
  case round =>
    obtain ⟨k, hk, rfl, HI⟩ := hrel
    clear hmk HI0 hDlt
    by_cases hlt : k < n
    · have hki : (k : Int) < (n : Int) := by omega
      have hkl : k < d.lies.length := by rw [← unhide HNN]; exact hlt
      have hDw := (unhide HH).below (u' := wr) (by rw [← unhide HN]; exact (unhide HI).1)
      have c0' := hDw.c0
      rw [← unhide HNN] at c0'
      have hix := ixPages L n n k hlt
      have hsp := slPage L (k * 1024)
      have hcv := conv_range (hDw.page_at k hkl) 1024 1024 (hDw.ok.len _ (getD_mem _ _ hkl _)).symm
      have hcz : wr.frozen? ⟨N, k, none⟩ = false := by simp [World.frozen?, (unhide HI).2.1]
      have hcs : (wr.cell? ⟨N, k, none⟩).isSome = true := by
        rw [cell_of_row wr N k _ _ _ (unhide HI).2.1]
        simp only [List.getElem?_toArray]
        rw [List.getElem?_eq_getElem (by simp; omega)]
        rfl
      obtain ⟨y, hy⟩ := Option.isSome_iff_exists.1 hcs
      obtain ⟨S, hS⟩ : ∃ S : ByteArray, S = ⟨(d.lies.getD k []).toArray⟩ := ⟨_, rfl⟩
      rw [← hS] at hcv
      have HNX : Hid (Below N u (wr.setCell ⟨N, k, none⟩ (.string S)) ∧ (wr.setCell ⟨N, k, none⟩ (.string S)).heap[N]? = some (.cells ((d.lies.take (k + 1)).map str ++ List.replicate (d.lies.length - (k + 1)) (Value.string .empty)).toArray 9 (0, 0)) ∧ (wr.setCell ⟨N, k, none⟩ (.string S)).heap.size = N + 1) := by
        refine ⟨belowCell (unhide HI).1 (p := ⟨N, k, none⟩) (Nat.le_refl _) _, ?_, by rw [← (unhide HI).2.2]; simp [World.setCell]⟩
        rw [heapCell_same (unhide HI).2.1, hS, row_step d.lies k hkl _ rfl]
      clear hDw HI hcs hS hkl
      go_wp2
      go_roundw
      case rel => exact ⟨k + 1, by omega, by go_num, HNX⟩
      case measure => simp [RowKit.intOf]; omega
    · have hkk : k = n := by omega
      subst hkk
      go_wp2
      go_ret
      obtain ⟨h1, h2, h3⟩ := unhide HI
      refine ⟨rfl, ?_, h1, h3⟩
      rw [h2, unhide HNN, List.take_length, Nat.sub_self, List.replicate_zero, List.append_nil]
      rfl
end
end
section
open Go.RowKit Go.Lib
section
variable {B : Nat} {u : World} {D : Nat} {d : Dk} {F : List Nat}
theorem kWriteN (h : Dsk B u D F d) (hB : B ≤ u.heap.size) (x : Int) (ao : Option Addr) (n c : Nat) (bs : List UInt8) (hn : n = bs.length) (hs : Bs u ao bs F) (hm : d.pend.length ≤ 1000000000) (r : Int × Dk) (hr : d.write x bs = r) :
    Calls Tryd.prog 111 #[.pointer (some ⟨D, 0, none⟩), .int .i64 x, .slice ao n c] u fun e u' => e = .returned (.int .i64 r.1) ∧ ∃ F', Dsk B u' D F' r.2 ∧ UpS u u' F ∧ ∀ k ∈ F', k ∈ F ∨ u.heap.size ≤ k := by
  subst hn hr
  exact kWrite h hB x ao c bs hs hm
theorem kSyncN (h : Dsk B u D F d) (hm : d.pend.length ≤ 1000000000) (r : Int × Dk) (hr : d.sync = r) : Calls Tryd.prog 110 #[.pointer (some ⟨D, 0, none⟩)] u fun e u' => e = .returned (.int .i64 r.1) ∧ ∃ F', Dsk B u' D F' r.2 ∧ UpS u u' F ∧ ∀ k ∈ F', k ∈ F := by
  subst hr
  exact kSync h hm
theorem kPendingD (h : Dsk B u D F d) : Calls Tryd.prog 42 #[.pointer (some ⟨D, 0, none⟩)] u fun e u' => e = .returned (.int .i64 (d.pend.length : Int)) ∧ u' = u := by
  obtain ⟨L, T, v, f, rfl, h⟩ := h
  exact kPending h
theorem kPagesD (h : Dsk B u D F d) : Calls Tryd.prog 108 #[.pointer (some ⟨D, 0, none⟩)] u fun e u' => e = .returned (.int .i64 (d.lies.length : Int)) ∧ u' = u := by
  obtain ⟨L, T, v, f, rfl, h⟩ := h
  exact kPages h
theorem kFuseD (h : Dsk B u D F d) (x : Int) (hx : x ≤ 9223372036854775807) : Calls Tryd.prog 19 #[.pointer (some ⟨D, 0, none⟩), .int .i64 x] u fun e u' => e = .returned (.tuple #[]) ∧ Dsk B u' D F (d.fused x) ∧ UpS u u' F := by
  obtain ⟨L, T, v, f, rfl, h⟩ := h
  exact (kFuse h x hx).mono fun e u' ⟨he, hd, hu⟩ => ⟨he, ⟨L, T, v, f, rfl, hd⟩, hu.mono fun y hy => .inl (by simp_all)⟩
theorem kReadD (h : Dsk B u D F d) (i : Nat) (hi : i < d.lies.length) (hoff : d.off = false) (hm : d.pend.length ≤ 1000000000000) : Calls Tryd.prog 109 #[.pointer (some ⟨D, 0, none⟩), .int .i64 (i : Int)] u fun e u' =>
    e = .returned (.tuple #[.slice (some ⟨u.heap.size, 0, none⟩) 1024 1024, .int .i64 0]) ∧ u'.heap[u.heap.size]? = some (.cells (img (d.page i)) 5 (0, 0)) ∧ Below u.heap.size u u' ∧ u'.heap.size = u.heap.size + 1 := by
  obtain ⟨L, T, v, f, rfl, h⟩ := h
  exact kReadOk h i hi hoff hm
theorem kDurableD (h : Dsk B u D F d) : Calls Tryd.prog 18 #[.pointer (some ⟨D, 0, none⟩)] u fun e u' =>
    e = .returned (.slice (some ⟨u.heap.size, 0, none⟩) d.lies.length d.lies.length) ∧ u'.heap[u.heap.size]? = some (.cells (strs d.lies) 9 (0, 0)) ∧ Below u.heap.size u u' ∧ u'.heap.size = u.heap.size + 1 := by
  obtain ⟨L, T, v, f, rfl, h⟩ := h
  exact kDurable h
end
end
end Go.Proofs.YtfdfbjijomepgaaDoor.D
