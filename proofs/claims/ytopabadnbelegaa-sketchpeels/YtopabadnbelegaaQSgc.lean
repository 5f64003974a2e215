/- Segments: Key, Of, Prefix, on both sides. -/
import Derived.Test.YtopabadnbelegaaQSgb
import Derived.Test.YtopabadnbelegaaQZaw
import Derived.Test.YtopabadnbelegaaQDgc
namespace Go.Proofs.Ytopabadnbelegaa.S
open Go.RowKit Go.Lib
theorem hide {p : Prop} (h : p) : Hid p := h
theorem unhide {p : Prop} (h : Hid p) : p := h
theorem ofCells_at (l : List UInt8) (i : Nat) (h : i < 32) : (D.ofCells l)[i]? = some (.int .u8 (((D.Sha.of l).getD i 0).toNat : Int)) := by
  have hs := D.ofCells_size l
  unfold D.ofCells at hs ⊢
  rw [List.getElem?_toArray]
  unfold Lib.byteCells at hs ⊢
  have hl : (D.Sha.of l).length = 32 := by simpa using hs
  simp [List.getD_eq_getElem?_getD, hl, h]
theorem or_place (a b : Nat) (hb : b < 256) : a * 16 ||| b / 16 = a * 16 + b / 16 := by
  have h := Nat.shiftLeft_add_eq_or_of_lt (b := b / 16) (i := 4) (by omega) a
  rw [Nat.shiftLeft_eq] at h
  exact h.symm
theorem i64_or_place (a b : Nat) (ha : a < 256) (hb : b < 256) : bits .or .i64 ((a : Int) * 16) ((b : Int) / 16) = ((a * 16 + b / 16 : Nat) : Int) := by
  have e1 : (a : Int) * 16 = ((a * 16 : Nat) : Int) := by omega
  have e2 : (b : Int) / 16 = ((b / 16 : Nat) : Int) := by omega
  rw [e1, e2]
  show IntKind.i64.wrap ((BitVec.ofInt 64 ((a * 16 : Nat) : Int) ||| BitVec.ofInt 64 ((b / 16 : Nat) : Int)).toNat : Int) = _
  rw [BitVec.toNat_or, ofInt_u64 _ (by omega), ofInt_u64 _ (by omega), or_place a b hb]
  generalize hq : a * 16 + b / 16 = q
  rw [IntKind.wrap_i64]
  omega
def segB (n : Int) : Bool := decide (segP n)
theorem segB_true {n : Int} : segB n = true ↔ segP n := by unfold segB; exact decide_eq_true_iff
theorem segB_eq (n : Int) : segB n = (decide (0 ≤ n) && decide (n < 4096)) := by
  rw [Bool.eq_iff_iff, Bool.and_eq_true, decide_eq_true_eq, decide_eq_true_eq]; exact segB_true
theorem segB_false {n : Int} : segB n = false ↔ ¬ segP n := by unfold segB; exact decide_eq_false_iff_not
def widB (n : Int) : Bool := decide (widP n)
theorem widB_true {n : Int} : widB n = true ↔ widP n := by unfold widB; exact decide_eq_true_iff
theorem widB_eq (n : Int) : widB n = (decide (1 ≤ n) && decide (n ≤ 32)) := by
  rw [Bool.eq_iff_iff, Bool.and_eq_true, decide_eq_true_eq, decide_eq_true_eq]; exact widB_true
theorem widB_false {n : Int} : widB n = false ↔ ¬ widP n := by unfold widB; exact decide_eq_false_iff_not
structure Wn (u w : World) (B a r : Nat) (bs : List UInt8) : Prop where
  wr : W.Wr w a r bs
  below : Below B u w
  sz : B ≤ w.heap.size
  ha : B ≤ a
  hr : B ≤ r
theorem Wn.put {u w w' : World} {B a r r' : Nat} {bs bs' : List UInt8} (h : Wn u w B a r bs) (hp : W.Put w w' a r r' bs') : Wn u w' B a r' bs' :=
  ⟨hp.1, h.below.trans (hp.2.2.below h.sz h.ha h.hr), Nat.le_trans h.sz hp.2.2.size, h.ha, by rcases hp.2.1 with e | e; rw [e]; exact h.hr; exact Nat.le_trans h.sz e⟩
theorem Wr.below {w w' : World} {a r : Nat} {bs : List UInt8} (h : W.Wr w a r bs) (hb : Below w.heap.size w w') : W.Wr w' a r bs :=
  h.same hb.size (hb.block a h.1) (hb.block r h.2.1)
theorem Wn.belw {u w w' : World} {B a r : Nat} {bs : List UInt8} (h : Wn u w B a r bs) (hb : Below w.heap.size w w') : Wn u w' B a r bs :=
  ⟨Wr.below h.wr hb, h.below.trans (hb.mono h.sz), Nat.le_trans h.sz hb.size, h.ha, h.hr⟩
theorem Wn.max {u w : World} {B a r : Nat} {bs : List UInt8} (h : Wn u w B a r bs) : bs.length ≤ 140737488355328 := h.wr.2.2.1
theorem Wn.new (u : World) (t : TypeId) : Wn u (u.alloc (.cells #[.slice none 0 0] t)) u.heap.size u.heap.size u.heap.size [] :=
  ⟨W.Wr.new u t, (Below.refl _ _).alloc (Nat.le_refl _) _, by simp, Nat.le_refl _, Nat.le_refl _⟩
theorem wnNew (X : World) : Calls Try.prog 31 #[] X fun e X' => ∃ a r, e = .returned (.pointer (some ⟨a, 0, none⟩)) ∧ Wn X X' X.heap.size a r [] := (W.wNew X).mono fun e X' hh => by
  obtain ⟨h1, h2⟩ := hh
  exact ⟨_, _, h1, by rw [h2]; exact Wn.new X 83⟩
section
variable {u w : World} {B a r : Nat} {bs : List UInt8}
theorem wnByte (h : Wn u w B a r []) : Calls Try.prog 32 #[.pointer (some ⟨a, 0, none⟩), .int .u8 83] w fun e w' => e = .returned (.tuple #[]) ∧ ∃ r', Wn u w' B a r' [83] :=
  (W.wByte a r [] 83 w h.wr (by decide) (by decide) (by decide)).mono fun e w' ⟨h1, r', hp⟩ => ⟨h1, r', h.put hp⟩
theorem wnText (h : Wn u w B a r bs) (s : ByteArray) (hl : bs.length ≤ 140737488000000) (hs : s.size ≤ 1000) : Calls Try.prog 33 #[.pointer (some ⟨a, 0, none⟩), .string s] w fun e w' => e = .returned (.tuple #[]) ∧ ∃ r', Wn u w' B a r' (bs ++ textB s) :=
  (W.wText a r bs s w h.wr (by omega)).mono fun e w' ⟨h1, r', hp⟩ => ⟨h1, r', h.put hp⟩
theorem wnUint (h : Wn u w B a r bs) (v : Int) (h0 : 0 ≤ v) (h1 : v < 18446744073709551616) (hl : bs.length ≤ 140737488000000) : Calls Try.prog 44 #[.pointer (some ⟨a, 0, none⟩), .int .u64 v] w fun e w' => e = .returned (.tuple #[]) ∧ ∃ r', Wn u w' B a r' (bs ++ W.uintB 9 v.toNat) :=
  (W.wUintI a r bs v w h.wr h0 h1 (by omega)).mono fun e w' ⟨h1, r', hp⟩ => ⟨h1, r', h.put hp⟩
theorem wnTold (h : Wn u w B a r bs) : Calls Try.prog 36 #[.pointer (some ⟨a, 0, none⟩)] w fun e w' => e = .returned (.string ⟨bs.toArray⟩) ∧ w' = w := W.wTold a r bs w h.wr
end
end Go.Proofs.Ytopabadnbelegaa.S
