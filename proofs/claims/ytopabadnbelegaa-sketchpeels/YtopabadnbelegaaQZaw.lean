/- Cut out of the texts of elder seats by cut.py and less.py. -/
import Derived.Test.YtopabadnbelegaaQ01
import Derived.Test.YtopabadnbelegaaQXu
import Derived.Test.YtopabadnbelegaaQYw
import Derived.Test.YtopabadnbelegaaQXgf
import Derived.Test.YtopabadnbelegaaQOfx
import Derived.WalkKit
import Derived.WalkLawsBesides
import Derived.ProofKit
import Derived.OpenShut
import Derived.Handy
import Derived.ArgAppend
import Derived.Lib.AppendStr
import Derived.Laws.BitsAllLaws
import Derived.Laws.IdiomStrings
import Derived.Deep.OwnRows
import Derived.Deep.Heap
import Derived.Lib.ConvBytes
namespace Go.Proofs.Ytopabadnbelegaa.W
open Go.RowKit Go.Lib
/-- a row of bytes at block X -/
structure Row (w : World) (X : Nat) (bs : List UInt8) : Prop where
  lt : X < w.heap.size
  cell : ∀ j, j < bs.length → w.cell? ⟨X, j, none⟩ = some (.int .u8 ((bs.getD j 0).toNat : Int))
  frozen : ∀ j, j < bs.length → w.frozen? ⟨X, j, none⟩ = false
theorem Row.set {w : World} {X : Nat} {bs : List UInt8} (h : Row w X bs) (k : Nat) (b : UInt8) (hk : k < bs.length) : Row (w.setCell ⟨X, k, none⟩ (.int .u8 b.toNat)) X (bs.set k b) where
  lt := by simpa using h.lt
  cell := fun j hj => by
    rw [List.length_set] at hj
    by_cases e : j = k
    · subst e
      rw [World.cell?_setCell_same _ _ _ (h.cell j hj)]
      simp [List.getD, hk]
    · rw [World.cell?_setCell_other _ _ _ _ (fun h => e (by cases h; rfl)), h.cell j hj]
      simp [List.getD, List.getElem?_set_ne (fun h => e h.symm)]
  frozen := fun j hj => by
    rw [List.length_set] at hj
    simpa using h.frozen j hj
theorem row_run {w : World} {X n cap : Nat} {bs : List UInt8} (h : Row w X bs) (hn : bs.length = n) : (convert 81 9 (.slice (some ⟨X, 0, none⟩) n cap)).run Try.prog w = .ok (.string ⟨bs.toArray⟩) w := by
  subst hn
  refine run_convert_bytes_back w 81 9 5 ⟨X, 0, none⟩ cap bs Try.underlying81 Try.underlying5 Try.underlying9 fun j hj => ?_
  have := h.cell j hj
  simp only [List.getD, List.getElem?_eq_getElem hj, Option.getD_some] at this
  have e : (⟨X, 0, none⟩ : Addr).add j = ⟨X, j, none⟩ := by cases j <;> simp [Addr.add]
  rw [e]; exact this
theorem Row.made (w : World) (n : Nat) (t : TypeId) : Row (w.alloc (.cells (madeCells #[.int .u8 0] n) t)) w.heap.size (List.replicate n 0) where
  lt := by simp
  cell := fun j hj => by
    rw [List.length_replicate] at hj
    rw [World.cell?_alloc_new]
    simp [madeCells, List.getD, hj, Nat.mod_one]
  frozen := fun j hj => by rw [frozen?_alloc_cells]; simp [World.frozen?]
theorem fix_div (v n m : Nat) (h : m < n) : v / 256 ^ (n - (m + 1)) / 256 = v / 256 ^ (n - m) := by
  rw [Nat.div_div_eq_div_mul, ← Nat.pow_succ, show (n - (m + 1)).succ = n - m from by omega]
theorem fix_done (v n : Nat) (bs : List UInt8) (hl : bs.length = n) (h : ∀ j, 0 ≤ j → j < n → bs[j]? = some (UInt8.ofNat (v / 256 ^ (n - 1 - j)))) : bs = fixB v n := by
  apply List.ext_getElem?
  intro j
  by_cases hj : j < n
  · rw [h j (Nat.zero_le _) hj]
    simp [fixB, hj]
  · rw [List.getElem?_eq_none (by omega), List.getElem?_eq_none (by rw [fixB_length]; omega)]
theorem below_set {B : Nat} {a w : World} (h : Below B a w) {p : Addr} (hg : B ≤ p.block) (v : Value) : Below B a (w.setCell p v) :=
  ⟨h.os, h.tape, h.output, by simpa [World.setCell] using h.size, fun k hk => (Deep.blk_setCell_other w p v k (by omega)).trans (h.block k hk)⟩
theorem u8_low (X : Nat) : ((X : Int) % 256) = ((UInt8.ofNat X).toNat : Int) := by simp
theorem mwText (t : ByteArray) (w : World) (ht : t.size ≤ 1048576) :
    Calls Try.prog 38 #[.string t] w fun e w' => e = .returned (.string ⟨(uintB 9 t.size ++ t.data.toList).toArray⟩) ∧ Below w.heap.size w w' := by
  have HU := hide (mwUint t.size w (by omega))
  have hl := (uintB_length 9 t.size).2
  have he : (⟨(uintB 9 t.size ++ t.data.toList).toArray⟩ : ByteArray) = ⟨(uintB 9 t.size).toArray⟩ ++ t := by
    apply ByteArray.ext
    simp [ByteArray.data_append]
  rw [he]
  have hsz : (⟨(uintB 9 t.size).toArray⟩ : ByteArray).size ≤ 10 := by
    show (uintB 9 t.size).toArray.size ≤ 10
    rw [List.size_toArray]; exact hl
  generalize (⟨(uintB 9 t.size).toArray⟩ : ByteArray) = F at *
  clear he hl
  go_enter Try.func38, Try.ntmps38
  go_wp2_with fail
  refine (unhide HU).mono ?_
  rintro e w1 ⟨rfl, hb⟩
  have HB := hide hb
  clear hb
  go_wp2
  go_ret
  exact ⟨rfl, unhide HB⟩
end Go.Proofs.Ytopabadnbelegaa.W
