/- Cut out of the texts of elder seats by cut.py and less.py. -/
import Derived.Test.YtbahlfpcbplofaaXw
import Derived.Test.YtbahlfpcbplofaaXu
import Derived.Test.YtbahlfpcbplofaaYw
import Derived.Test.YtbahlfpcbplofaaXgf
import Derived.Test.YtbahlfpcbplofaaOfx
import Derived.WalkKit
import Derived.WalkLawsBesides
import Derived.ProofKit
import Derived.OpenShut
import Derived.Handy
import Derived.ArgAppend
import Derived.Lib.AppendStr
import Derived.Laws.BitsAllLaws
import Derived.Laws.IdiomStrings
import Derived.Deep.OwnRows
import Derived.Deep.Heap
import Derived.Lib.ConvBytes
namespace Go.Proofs.Ytbahlfpcbplofaa.W
open Go.RowKit Go.Lib
/-- a row of bytes at block X -/
structure Row (w : World) (X : Nat) (bs : List UInt8) : Prop where
  lt : X < w.heap.size
  cell : ∀ j, j < bs.length → w.cell? ⟨X, j, none⟩ = some (.int .u8 ((bs.getD j 0).toNat : Int))
  frozen : ∀ j, j < bs.length → w.frozen? ⟨X, j, none⟩ = false
theorem Row.set {w : World} {X : Nat} {bs : List UInt8} (h : Row w X bs) (k : Nat) (b : UInt8) (hk : k < bs.length) : Row (w.setCell ⟨X, k, none⟩ (.int .u8 b.toNat)) X (bs.set k b) where
  lt := by simpa using h.lt
  cell := fun j hj => by
    rw [List.length_set] at hj
    by_cases e : j = k
    · subst e
      rw [World.cell?_setCell_same _ _ _ (h.cell j hj)]
      simp [List.getD, hk]
    · rw [World.cell?_setCell_other _ _ _ _ (fun h => e (by cases h; rfl)), h.cell j hj]
      simp [List.getD, List.getElem?_set_ne (fun h => e h.symm)]
  frozen := fun j hj => by
    rw [List.length_set] at hj
    simpa using h.frozen j hj
theorem row_run {w : World} {X n cap : Nat} {bs : List UInt8} (h : Row w X bs) (hn : bs.length = n) : (convert 52 9 (.slice (some ⟨X, 0, none⟩) n cap)).run Try.prog w = .ok (.string ⟨bs.toArray⟩) w := by
  subst hn
  refine run_convert_bytes_back w 52 9 5 ⟨X, 0, none⟩ cap bs Try.underlying52 Try.underlying5 Try.underlying9 fun j hj => ?_
  have := h.cell j hj
  simp only [List.getD, List.getElem?_eq_getElem hj, Option.getD_some] at this
  have e : (⟨X, 0, none⟩ : Addr).add j = ⟨X, j, none⟩ := by cases j <;> simp [Addr.add]
  rw [e]; exact this
theorem Row.made (w : World) (n : Nat) (t : TypeId) : Row (w.alloc (.cells (madeCells #[.int .u8 0] n) t)) w.heap.size (List.replicate n 0) where
  lt := by simp
  cell := fun j hj => by
    rw [List.length_replicate] at hj
    rw [World.cell?_alloc_new]
    simp [madeCells, List.getD, hj, Nat.mod_one]
  frozen := fun j hj => by rw [frozen?_alloc_cells]; simp [World.frozen?]
theorem fix_div (v n m : Nat) (h : m < n) : v / 256 ^ (n - (m + 1)) / 256 = v / 256 ^ (n - m) := by
  rw [Nat.div_div_eq_div_mul, ← Nat.pow_succ, show (n - (m + 1)).succ = n - m from by omega]
theorem fix_done (v n : Nat) (bs : List UInt8) (hl : bs.length = n) (h : ∀ j, 0 ≤ j → j < n → bs[j]? = some (UInt8.ofNat (v / 256 ^ (n - 1 - j)))) : bs = fixB v n := by
  apply List.ext_getElem?
  intro j
  by_cases hj : j < n
  · rw [h j (Nat.zero_le _) hj]
    simp [fixB, hj]
  · rw [List.getElem?_eq_none (by omega), List.getElem?_eq_none (by rw [fixB_length]; omega)]
theorem below_set {B : Nat} {a w : World} (h : Below B a w) {p : Addr} (hg : B ≤ p.block) (v : Value) : Below B a (w.setCell p v) :=
  ⟨h.os, h.tape, h.output, by simpa [World.setCell] using h.size, fun k hk => (Deep.blk_setCell_other w p v k (by omega)).trans (h.block k hk)⟩
theorem u8_low (X : Nat) : ((X : Int) % 256) = ((UInt8.ofNat X).toNat : Int) := by simp
set_option maxRecDepth 100000 in
set_option maxHeartbeats 1000000 in
theorem mwFixed (v n : Nat) (w : World) (hv : v < 18446744073709551616) (hn : n ≤ 8) :
    Calls Try.prog 54 #[.int .u64 v, .int .i64 n] w fun e w' => e = .returned (.string ⟨(fixB v n).toArray⟩) ∧ Below w.heap.size w w' := by
  have hmk := run_make_row' (P := Try.prog) 52 5 (.int .u8 0) 1 Try.underlying52 info5 rfl .i64 .i64 n (by omega) (by omega)
  have HR := hide (Row.made w n 5)
  have HB : Hid (Below w.heap.size w (w.alloc (.cells (madeCells #[.int .u8 0] n) 5))) := (Below.refl _ _).alloc (Nat.le_refl _) _
  go_enter Try.func54, Try.ntmps54
  go_wp2
  clear hmk
  go_loopw [0, 6] (fun x i wr => ∃ (k : Nat) (bs : List UInt8), k ≤ n ∧ x = .int .u64 (v / 256 ^ (n - k) : Nat) ∧ i = .int .i64 ((k : Int) - 1) ∧ Hid (bs.length = n ∧ Row wr w.heap.size bs ∧ Below w.heap.size w wr ∧ ∀ j, k ≤ j → j < n → bs[j]? = some (UInt8.ofNat (v / 256 ^ (n - 1 - j))))) (fun _ i _ => (RowKit.intOf i + 1).toNat)
  case atStart => exact ⟨n, List.replicate n 0, Nat.le_refl _, by simp, by go_num, hide ⟨by simp, unhide HR, unhide HB, fun j h1 h2 => absurd h1 (by omega)⟩⟩
  case round =>
    obtain ⟨k, bs, hk, rfl, rfl, HI⟩ := hrel
    clear HR HB
    cases k with
    | zero =>
      have hrun := row_run (cap := n) (unhide HI).2.1 (unhide HI).1
      have HD := hide (fix_done v n bs (unhide HI).1 (unhide HI).2.2.2)
      go_wp2
      go_ret
      rw [← unhide HD]
      exact ⟨rfl, (unhide HI).2.2.1⟩
    | succ m =>
      have hmn : m < n := by omega
      have hmi : ((m + 1 : Nat) : Int) - 1 = (m : Int) := by omega
      rw [hmi]
      have hX : v / 256 ^ (n - (m + 1)) < 18446744073709551616 := Nat.lt_of_le_of_lt (Nat.div_le_self _ _) hv
      have hdv := fix_div v n m hmn
      have hc := (unhide HI).2.1.cell m (by rw [(unhide HI).1]; exact hmn)
      have hf := (unhide HI).2.1.frozen m (by rw [(unhide HI).1]; exact hmn)
      have hE : ∀ j, m ≤ j → j < n → (bs.set m (UInt8.ofNat (v / 256 ^ (n - (m + 1)))))[j]? = some (UInt8.ofNat (v / 256 ^ (n - 1 - j))) := by
        intro j h1 h2
        by_cases e : m = j
        · subst e
          rw [List.getElem?_set_self (by rw [(unhide HI).1]; exact hmn), show n - (m + 1) = n - 1 - m from by omega]
        · rw [List.getElem?_set_ne e]
          exact (unhide HI).2.2.2 j (by omega) h2
      have HE := hide hE
      have hmi2 : (m : Int) < (n : Int) := by omega
      generalize v / 256 ^ (n - (m + 1)) = X at *
      have hu := u8_low X
      have HN := hide ((unhide HI).2.1.set m (UInt8.ofNat X) (by rw [(unhide HI).1]; exact hmn))
      rw [← hu] at HN
      have hX0 : (0 : Int) ≤ X := by omega
      have hXi : (X : Int) < 18446744073709551616 := by omega
      have HDV := hide hdv
      clear hE hdv hu hX hv
      go_wp2
      go_roundw
      case rel => exact ⟨m, bs.set m (UInt8.ofNat X), by omega, by rw [← unhide HDV]; rfl, rfl, hide ⟨by rw [List.length_set]; exact (unhide HI).1, unhide HN, below_set (unhide HI).2.2.1 (Nat.le_refl _) _, unhide HE⟩⟩
      case measure => simp [RowKit.intOf]
theorem mwText (t : ByteArray) (w : World) (ht : t.size ≤ 1048576) :
    Calls Try.prog 89 #[.string t] w fun e w' => e = .returned (.string ⟨(uintB 9 t.size ++ t.data.toList).toArray⟩) ∧ Below w.heap.size w w' := by
  have HU := hide (mwUint t.size w (by omega))
  have hl := (uintB_length 9 t.size).2
  have he : (⟨(uintB 9 t.size ++ t.data.toList).toArray⟩ : ByteArray) = ⟨(uintB 9 t.size).toArray⟩ ++ t := by
    apply ByteArray.ext
    simp [ByteArray.data_append]
  rw [he]
  have hsz : (⟨(uintB 9 t.size).toArray⟩ : ByteArray).size ≤ 10 := by
    show (uintB 9 t.size).toArray.size ≤ 10
    rw [List.size_toArray]; exact hl
  generalize (⟨(uintB 9 t.size).toArray⟩ : ByteArray) = F at *
  clear he hl
  go_enter Try.func89, Try.ntmps89
  go_wp2_with fail
  refine (unhide HU).mono ?_
  rintro e w1 ⟨rfl, hb⟩
  have HB := hide hb
  clear hb
  go_wp2
  go_ret
  exact ⟨rfl, unhide HB⟩
end Go.Proofs.Ytbahlfpcbplofaa.W
