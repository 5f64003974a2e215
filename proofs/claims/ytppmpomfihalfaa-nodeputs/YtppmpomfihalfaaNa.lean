/- Nodes as values: the order of texts, sizes, what may be. Of no program. -/
import Derived.Test.YtppmpomfihalfaaMm
import Derived.Laws.Cover1
namespace Go.Proofs.Ytppmpomfihalfaa
open Go.RowKit


/-- is one text below another -/
def lt (a b : ByteArray) : Bool := Op.bytesLess a.toList b.toList
theorem bl_irrefl : ∀ x : List UInt8, Op.bytesLess x x = false
  | [] => rfl
  | a :: x => by simp [Op.bytesLess, bl_irrefl x]
theorem bl_trans : ∀ x y z : List UInt8, Op.bytesLess x y = true → Op.bytesLess y z = true → Op.bytesLess x z = true
  | [], [], _, h, _ => by simp [Op.bytesLess] at h
  | [], _ :: _, [], _, h => by simp [Op.bytesLess] at h
  | [], _ :: _, _ :: _, _, _ => by simp [Op.bytesLess]
  | _ :: _, [], _, h, _ => by simp [Op.bytesLess] at h
  | _ :: _, _ :: _, [], _, h => by simp [Op.bytesLess] at h
  | a :: x, b :: y, c :: z, h1, h2 => by
    simp only [Op.bytesLess, Bool.or_eq_true, decide_eq_true_eq, Bool.and_eq_true, beq_iff_eq] at h1 h2 ⊢
    rcases h1 with h1 | ⟨rfl, h1⟩ <;> rcases h2 with h2 | ⟨rfl, h2⟩
    · exact .inl (UInt8.lt_trans h1 h2)
    · exact .inl h1
    · exact .inl h2
    · exact .inr ⟨rfl, bl_trans x y z h1 h2⟩
theorem bl_total : ∀ x y : List UInt8, Op.bytesLess x y = false → Op.bytesLess y x = false → x = y
  | [], [], _, _ => rfl
  | [], _ :: _, h, _ => by simp [Op.bytesLess] at h
  | _ :: _, [], _, h => by simp [Op.bytesLess] at h
  | a :: x, b :: y, h1, h2 => by
    simp only [Op.bytesLess, Bool.or_eq_false_iff, decide_eq_false_iff_not, Bool.and_eq_false_iff, beq_eq_false_iff_ne, ne_eq] at h1 h2
    have e : a = b := UInt8.le_antisymm (UInt8.not_lt.1 h2.1) (UInt8.not_lt.1 h1.1)
    subst e
    rw [bl_total x y (h1.2.resolve_left (fun h => h rfl)) (h2.2.resolve_left (fun h => h rfl))]
theorem ba_list {a b : ByteArray} (h : a.toList = b.toList) : a = b := by
  have hx : ∀ x : ByteArray, x.toList = x.data.toList := fun x => by rw [ByteArray.toList_eq]
  rw [hx, hx] at h
  cases a; cases b
  congr 1
  exact Array.ext' h
theorem lt_irrefl (a : ByteArray) : lt a a = false := bl_irrefl _
theorem lt_trans {a b c : ByteArray} (h1 : lt a b = true) (h2 : lt b c = true) : lt a c = true := bl_trans _ _ _ h1 h2
theorem lt_total {a b : ByteArray} (h1 : lt a b = false) (h2 : lt b a = false) : a = b := ba_list (bl_total _ _ h1 h2)
theorem lt_asymm {a b : ByteArray} (h1 : lt a b = true) : lt b a = false := by
  cases h : lt b a
  · rfl
  · have := lt_trans h1 h; rw [lt_irrefl] at this; cases this
theorem lt_ne {a b : ByteArray} (h1 : lt a b = true) : a ≠ b := fun h => by rw [h, lt_irrefl] at h1; cases h1
/-- a ≤ b, b < c -/
theorem lt_of_le {a b c : ByteArray} (h1 : lt b a = false) (h2 : lt b c = true) : lt a c = true := by
  cases h : lt a c
  · cases h3 : lt c a
    · have := lt_total h h3; subst this; rw [h1] at h2; cases h2
    · have := lt_trans h2 h3; rw [h1] at this; cases this
  · rfl
/-- a < b, b ≤ c -/
theorem lt_of_lt {a b c : ByteArray} (h1 : lt a b = true) (h2 : lt c b = false) : lt a c = true := by
  cases h : lt a c
  · cases h3 : lt c a
    · have := lt_total h h3; subst this; rw [h2] at h1; cases h1
    · have := lt_trans h3 h1; rw [h2] at this; cases this
  · rfl

/-- a cell -/
structure Cl where
  key : ByteArray
  val : ByteArray
/-- a node -/
structure Nd where
  leaf : Bool
  cells : List Cl
  keys : List ByteArray
  kids : List Nat
def Cl.cs (c : Cl) : List Value := [.string c.key, .string c.val]
def flatC (l : List Cl) : List Value := l.flatMap Cl.cs
def flatK (l : List ByteArray) : List Value := l.map Value.string
def flatG (l : List Nat) : List Value := l.map fun k : Nat => Value.int .u32 (k : Int)
/-- how many bytes a text has with its length ahead -/
def tsz (s : ByteArray) : Nat := if s.size < 128 then 1 + s.size else 2 + s.size
def Cl.sz (c : Cl) : Nat := tsz c.key + tsz c.val
def ksz (k : ByteArray) : Nat := tsz k + 4
def Nd.items (n : Nd) : Nat := if n.leaf then n.cells.length else n.keys.length
/-- the sizes of the items -/
def Nd.szs (n : Nd) : List Nat := if n.leaf then n.cells.map Cl.sz else n.keys.map ksz
def Nd.size (n : Nd) : Nat := (if n.leaf then 3 else 7) + n.szs.sum
def keyOk (k : ByteArray) : Prop := 1 ≤ k.size ∧ k.size ≤ 320
def Cl.Ok (c : Cl) : Prop := 1 ≤ c.key.size ∧ c.key.size + c.val.size ≤ 320
/-- is it a leaf or a branch -/
def Nd.Kind (n : Nd) : Prop := if n.leaf then n.keys.length = 0 ∧ n.kids.length = 0 else (∀ k ∈ n.kids, k ≠ 0) ∧ n.cells.length = 0 ∧ n.kids.length = n.keys.length + 1
def Nd.Small (n : Nd) : Prop := (∀ c ∈ n.cells, c.Ok) ∧ ∀ k ∈ n.keys, keyOk k
/-- the first k keys rise -/
def risen (l : List ByteArray) (k : Nat) : Prop := ∀ i (h : i + 1 < l.length), i + 1 < k → lt l[i] l[i + 1] = true
def rises (l : List ByteArray) : Prop := risen l l.length
def Nd.Up (n : Nd) : Prop := rises (n.cells.map Cl.key) ∧ rises n.keys
open Classical in
/-- what Check tells -/
noncomputable def Nd.check (n : Nd) : Int := if ¬ n.Kind then 80 else if ¬ n.Small then 82 else if ¬ n.Up then 81 else if 1992 < n.size then 82 else 0
structure Nd.Ok (n : Nd) : Prop where
  kind : n.Kind
  small : n.Small
  up : n.Up
  size : n.size ≤ 1992
theorem Nd.check_zero {n : Nd} : n.check = 0 ↔ n.Ok := by
  unfold Nd.check
  constructor
  · intro h
    split at h
    · cases h
    · rename_i h1
      split at h
      · cases h
      · rename_i h2
        split at h
        · cases h
        · rename_i h3
          split at h
          · cases h
          · rename_i h4
            exact ⟨Classical.not_not.1 h1, Classical.not_not.1 h2, Classical.not_not.1 h3, by omega⟩
  · intro h
    rw [if_neg (fun x => x h.kind), if_neg (fun x => x h.small), if_neg (fun x => x h.up), if_neg (by have := h.size; omega)]
/-- cells that lie somewhere -/
def Lies (w : World) (ao : Option Addr) (xs : List Value) : Prop := 0 < xs.length → ∃ g o, ao = some ⟨g, o, none⟩ ∧ w.rangeAt g o xs
theorem Lies.below {w w' : World} {ao : Option Addr} {xs : List Value} (h : Lies w ao xs) (hb : Below w.heap.size w w') : Lies w' ao xs := fun h0 => by
  obtain ⟨g, o, h1, h2⟩ := h h0
  exact ⟨g, o, h1, fun j v hv => (hb.cell (p := ⟨g, o + j, none⟩) (World.block_lt_of_cell? w _ (h2 j v hv))).trans (h2 j v hv)⟩
theorem Lies.nil (w : World) (ao : Option Addr) : Lies w ao [] := fun h => absurd h (by simp)
theorem flatC_len (l : List Cl) : (flatC l).length = l.length * 2 := by
  induction l with
  | nil => rfl
  | cons c l ih => simp [flatC, Cl.cs] at ih ⊢; omega
theorem flatK_len (l : List ByteArray) : (flatK l).length = l.length := List.length_map ..
theorem flatG_len (l : List Nat) : (flatG l).length = l.length := List.length_map ..
theorem flatC_get : ∀ (l : List Cl) (i : Nat) (hi : i < l.length), (flatC l)[i * 2]? = some (.string l[i].key) ∧ (flatC l)[i * 2 + 1]? = some (.string l[i].val)
  | [], _, hi => by simp at hi
  | c :: l, 0, _ => by simp [flatC, Cl.cs]
  | c :: l, i + 1, hi => by
    have := flatC_get l i (by simpa using hi)
    have e : flatC (c :: l) = .string c.key :: .string c.val :: flatC l := rfl
    rw [e, show (i + 1) * 2 = i * 2 + 1 + 1 by omega, show i * 2 + 1 + 1 + 1 = i * 2 + 1 + 1 + 1 from rfl]
    simpa using this
/-- where a node's lists lie -/
structure Nv where
  ca : Option Addr
  cc : Nat
  ka : Option Addr
  kc : Nat
  ga : Option Addr
  gc : Nat
def Nv.v (a : Nv) (n : Nd) : Value := .agg #[.bool n.leaf, .slice a.ca n.cells.length a.cc, .slice a.ka n.keys.length a.kc, .slice a.ga n.kids.length a.gc]
/-- a node in memory -/
structure NdAt (w : World) (n : Nd) (a : Nv) : Prop where
  cells : Lies w a.ca (flatC n.cells)
  keys : Lies w a.ka (flatK n.keys)
  kids : Lies w a.ga (flatG n.kids)
  kid : ∀ k ∈ n.kids, k < 4294967296
  len : n.cells.length ≤ 140737488355328 ∧ n.keys.length ≤ 140737488355328 ∧ n.kids.length ≤ 140737488355328
  str : ∀ c ∈ n.cells, c.key.size ≤ 140737488355328 ∧ c.val.size ≤ 140737488355328
  cap : n.cells.length ≤ a.cc ∧ n.keys.length ≤ a.kc ∧ n.kids.length ≤ a.gc
theorem NdAt.below {w w' : World} {n : Nd} {a : Nv} (h : NdAt w n a) (hb : Below w.heap.size w w') : NdAt w' n a :=
  ⟨h.cells.below hb, h.keys.below hb, h.kids.below hb, h.kid, h.len, h.str, h.cap⟩
end Go.Proofs.Ytppmpomfihalfaa
