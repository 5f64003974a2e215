/- Cut out of the texts of elder seats by cut.py and less.py. -/
import Derived.Test.YtppmpomfihalfaaNw
import Derived.WalkKit
import Derived.WalkLawsBesides
import Derived.ProofKit
import Derived.OpenShut
import Derived.Handy
import Derived.ArgAppend
import Derived.Lib.AppendStr
import Derived.Laws.BitsAllLaws
import Derived.Laws.IdiomStrings
import Derived.Deep.OwnRows
import Derived.Deep.Heap
import Derived.Lib.ConvBytes
namespace Go.Proofs.Ytppmpomfihalfaa.W
open Go.RowKit Go.Lib
/-- a row of bytes at block X -/
structure Row (w : World) (X : Nat) (bs : List UInt8) : Prop where
  lt : X < w.heap.size
  cell : ∀ j, j < bs.length → w.cell? ⟨X, j, none⟩ = some (.int .u8 ((bs.getD j 0).toNat : Int))
  frozen : ∀ j, j < bs.length → w.frozen? ⟨X, j, none⟩ = false
theorem Row.set {w : World} {X : Nat} {bs : List UInt8} (h : Row w X bs) (k : Nat) (b : UInt8) (hk : k < bs.length) : Row (w.setCell ⟨X, k, none⟩ (.int .u8 b.toNat)) X (bs.set k b) where
  lt := by simpa using h.lt
  cell := fun j hj => by
    rw [List.length_set] at hj
    by_cases e : j = k
    · subst e
      rw [World.cell?_setCell_same _ _ _ (h.cell j hj)]
      simp [List.getD, hk]
    · rw [World.cell?_setCell_other _ _ _ _ (fun h => e (by cases h; rfl)), h.cell j hj]
      simp [List.getD, List.getElem?_set_ne (fun h => e h.symm)]
  frozen := fun j hj => by
    rw [List.length_set] at hj
    simpa using h.frozen j hj
theorem row_run {w : World} {X n cap : Nat} {bs : List UInt8} (h : Row w X bs) (hn : bs.length = n) : (convert 111 9 (.slice (some ⟨X, 0, none⟩) n cap)).run Try.prog w = .ok (.string ⟨bs.toArray⟩) w := by
  subst hn
  refine run_convert_bytes_back w 111 9 5 ⟨X, 0, none⟩ cap bs Try.underlying111 Try.underlying5 Try.underlying9 fun j hj => ?_
  have := h.cell j hj
  simp only [List.getD, List.getElem?_eq_getElem hj, Option.getD_some] at this
  have e : (⟨X, 0, none⟩ : Addr).add j = ⟨X, j, none⟩ := by cases j <;> simp [Addr.add]
  rw [e]; exact this
theorem Row.made (w : World) (n : Nat) (t : TypeId) : Row (w.alloc (.cells (madeCells #[.int .u8 0] n) t)) w.heap.size (List.replicate n 0) where
  lt := by simp
  cell := fun j hj => by
    rw [List.length_replicate] at hj
    rw [World.cell?_alloc_new]
    simp [madeCells, List.getD, hj, Nat.mod_one]
  frozen := fun j hj => by rw [frozen?_alloc_cells]; simp [World.frozen?]
theorem fix_div (v n m : Nat) (h : m < n) : v / 256 ^ (n - (m + 1)) / 256 = v / 256 ^ (n - m) := by
  rw [Nat.div_div_eq_div_mul, ← Nat.pow_succ, show (n - (m + 1)).succ = n - m from by omega]
theorem fix_done (v n : Nat) (bs : List UInt8) (hl : bs.length = n) (h : ∀ j, 0 ≤ j → j < n → bs[j]? = some (UInt8.ofNat (v / 256 ^ (n - 1 - j)))) : bs = fixB v n := by
  apply List.ext_getElem?
  intro j
  by_cases hj : j < n
  · rw [h j (Nat.zero_le _) hj]
    simp [fixB, hj]
  · rw [List.getElem?_eq_none (by omega), List.getElem?_eq_none (by rw [fixB_length]; omega)]
theorem below_set {B : Nat} {a w : World} (h : Below B a w) {p : Addr} (hg : B ≤ p.block) (v : Value) : Below B a (w.setCell p v) :=
  ⟨h.os, h.tape, h.output, by simpa [World.setCell] using h.size, fun k hk => (Deep.blk_setCell_other w p v k (by omega)).trans (h.block k hk)⟩
theorem u8_low (X : Nat) : ((X : Int) % 256) = ((UInt8.ofNat X).toNat : Int) := by simp
set_option maxRecDepth 100000 in
set_option maxHeartbeats 1000000 in
theorem mwFixed (v n : Nat) (w : World) (hv : v < 18446744073709551616) (hn : n ≤ 8) :
    Calls Try.prog 107 #[.int .u64 v, .int .i64 n] w fun e w' => e = .returned (.string ⟨(fixB v n).toArray⟩) ∧ Below w.heap.size w w' := by
  have hmk := run_make_row' (P := Try.prog) 111 5 (.int .u8 0) 1 Try.underlying111 info5 rfl .i64 .i64 n (by omega) (by omega)
  have HR := hide (Row.made w n 5)
  have HB : Hid (Below w.heap.size w (w.alloc (.cells (madeCells #[.int .u8 0] n) 5))) := (Below.refl _ _).alloc (Nat.le_refl _) _
  go_enter Try.func107, Try.ntmps107
  go_wp2
  clear hmk
  go_loopw [0, 6] (fun x i wr => ∃ (k : Nat) (bs : List UInt8), k ≤ n ∧ x = .int .u64 (v / 256 ^ (n - k) : Nat) ∧ i = .int .i64 ((k : Int) - 1) ∧ Hid (bs.length = n ∧ Row wr w.heap.size bs ∧ Below w.heap.size w wr ∧ ∀ j, k ≤ j → j < n → bs[j]? = some (UInt8.ofNat (v / 256 ^ (n - 1 - j))))) (fun _ i _ => (RowKit.intOf i + 1).toNat)
  case atStart => exact ⟨n, List.replicate n 0, Nat.le_refl _, by simp, by go_num, hide ⟨by simp, unhide HR, unhide HB, fun j h1 h2 => absurd h1 (by omega)⟩⟩
  case round =>
    obtain ⟨k, bs, hk, rfl, rfl, HI⟩ := hrel
    clear HR HB
    cases k with
    | zero =>
      have hrun := row_run (cap := n) (unhide HI).2.1 (unhide HI).1
      have HD := hide (fix_done v n bs (unhide HI).1 (unhide HI).2.2.2)
      go_wp2
      go_ret
      rw [← unhide HD]
      exact ⟨rfl, (unhide HI).2.2.1⟩
    | succ m =>
      have hmn : m < n := by omega
      have hmi : ((m + 1 : Nat) : Int) - 1 = (m : Int) := by omega
      rw [hmi]
      have hX : v / 256 ^ (n - (m + 1)) < 18446744073709551616 := Nat.lt_of_le_of_lt (Nat.div_le_self _ _) hv
      have hdv := fix_div v n m hmn
      have hc := (unhide HI).2.1.cell m (by rw [(unhide HI).1]; exact hmn)
      have hf := (unhide HI).2.1.frozen m (by rw [(unhide HI).1]; exact hmn)
      have hE : ∀ j, m ≤ j → j < n → (bs.set m (UInt8.ofNat (v / 256 ^ (n - (m + 1)))))[j]? = some (UInt8.ofNat (v / 256 ^ (n - 1 - j))) := by
        intro j h1 h2
        by_cases e : m = j
        · subst e
          rw [List.getElem?_set_self (by rw [(unhide HI).1]; exact hmn), show n - (m + 1) = n - 1 - m from by omega]
        · rw [List.getElem?_set_ne e]
          exact (unhide HI).2.2.2 j (by omega) h2
      have HE := hide hE
      have hmi2 : (m : Int) < (n : Int) := by omega
      generalize v / 256 ^ (n - (m + 1)) = X at *
      have hu := u8_low X
      have HN := hide ((unhide HI).2.1.set m (UInt8.ofNat X) (by rw [(unhide HI).1]; exact hmn))
      rw [← hu] at HN
      have hX0 : (0 : Int) ≤ X := by omega
      have hXi : (X : Int) < 18446744073709551616 := by omega
      have HDV := hide hdv
      clear hE hdv hu hX hv
      go_wp2
      go_roundw
      case rel => exact ⟨m, bs.set m (UInt8.ofNat X), by omega, by rw [← unhide HDV]; rfl, rfl, hide ⟨by rw [List.length_set]; exact (unhide HI).1, unhide HN, below_set (unhide HI).2.2.1 (Nat.le_refl _) _, unhide HE⟩⟩
      case measure => simp [RowKit.intOf]
/-- a row of bytes of one's own -/
def OwnB (w wr : World) (v : Value) (bs : List UInt8) : Prop := wr.ownsRow w.heap.size 5 1 v bs.length (Bs bs) ∧ Below w.heap.size w wr
theorem OwnB.block {w wr : World} {v : Value} {bs : List UInt8} (h : OwnB w wr v bs) {g : Nat} (hg : v.ownBlock = some g) : w.heap.size ≤ g := by
  rcases h.1.2 with ⟨hv, _⟩ | ⟨g', cap, cur, hv, hb, _⟩
  · rw [hv] at hg; cases hg
  · rw [hv] at hg; cases hg; exact hb
theorem OwnB.grow {w wr w1 : World} {o : Obj} {v v' : Value} {bs : List UInt8} {b : UInt8} {x : Int} (h : OwnB w wr v bs) (hx : x = (b.toNat : Int)) (ho : w1.ownsRow w.heap.size 5 1 v' (bs.length + 1) (Bs bs ++ [.int .u8 x])) (hg : (wr.alloc o).grownBy w1 v.ownBlock) : OwnB w w1 v' (bs ++ [b]) := by
  subst hx
  refine ⟨by rw [Bs_append, List.length_append]; exact ho, ?_⟩
  obtain ⟨g1, g2, g3, g4, g5⟩ := hg
  have hb := h.2.alloc (h.2.size) o
  refine ⟨g1.trans hb.os, g2.trans hb.tape, g3.trans hb.output, Nat.le_trans hb.size g4, fun k hk => ?_⟩
  rw [← hb.block k hk]
  refine g5 k (Nat.lt_of_lt_of_le hk hb.size) fun e => ?_
  have := h.block e.symm
  omega
theorem own_run {w wr : World} {bs : List UInt8} {ao : Option Addr} {n cap : Nat} (h : OwnB w wr (.slice ao n cap) bs) (hn : n = bs.length) :
    (convert 111 9 (.slice ao n cap)).run Try.prog wr = .ok (.string ⟨bs.toArray⟩) wr := by
  subst hn
  rcases h.1.2 with ⟨e, hn⟩ | ⟨g, cap', cur, e, _⟩
  · have hb : bs = [] := List.eq_nil_of_length_eq_zero hn
    subst hb
    cases e
    exact run_convert_bytes_nil wr 111 5 Try.underlying111 Try.underlying5 _ _ 9 Try.underlying9
  · cases e
    refine run_convert_bytes_back wr 111 9 5 ⟨g, 0, none⟩ cap bs Try.underlying111 Try.underlying5 Try.underlying9 fun j hj => ?_
    refine h.1.cells rfl j _ ?_
    simp [Bs, hj]
set_option maxRecDepth 100000 in
set_option maxHeartbeats 1000000 in
theorem mwUint (v : Nat) (w : World) (hv : v < 18446744073709551616) :
    Calls Try.prog 130 #[.int .u64 v] w fun e w' => e = .returned (.string ⟨(uintB 9 v).toArray⟩) ∧ Below w.heap.size w w' := by
  obtain ⟨i0, hi, hz0, hz1, hz2⟩ := info_parts info5
  go_enter Try.func130, Try.ntmps130
  go_wp2
  go_loopw [0, 3] (fun x y wr => ∃ (u f : Nat) (acc : List UInt8) (ao : Option Addr) (cap : Nat), u < 18446744073709551616 ∧ x = .int .u64 u ∧ y = .slice ao acc.length cap ∧ acc.length ≤ 9 ∧ Hid (OwnB w wr (.slice ao acc.length cap) acc) ∧ Hid (u < 128 ^ (f + 1) ∧ acc.length + f = 9 ∧ acc ++ uintB f u = uintB 9 v)) (fun x _ _ => (RowKit.intOf x).toNat)
  case atStart => exact ⟨v, 9, [], none, 0, hv, rfl, rfl, by simp, hide ⟨World.ownsRow_nil _ _ _ _, Below.refl _ _⟩, hide ⟨by omega, by simp, rfl⟩⟩
  case round =>
    obtain ⟨u, f, acc, ao, cap, hu, rfl, rfl, hacc, HP, H⟩ := hrel
    by_cases hlt : u < 128
    · have hui : (u : Int) < 128 := by omega
      have hu2 : (u : Int) = ((UInt8.ofNat u).toNat : Int) := by simp; omega
      have HU2 := hide hu2
      clear hu2
      go_wp2_with (at_builtin; refine wpList_put _ rfl (.tmp 15) (.tmp 18) 111 rfl w.heap.size 5 i0 (.int .u8 0) 1 1 Try.underlying111 hi hz0 hz1 hz2 rfl (by decide) _ _ _ rfl ((unhide HP).1.alloc _) ⟨wr.heap.size, 0, none⟩ 1 1 [.int .u8 ((u : Int))] rfl rfl ?c1 ?c2 ?c3 ?c4 ?c5 ?_)
      case c1 => intro j u hj; match j, hj with | 0, hj => simp at hj; subst hj; simp [Addr.add]
      case c2 => intro u hu; simp at hu; subst hu; rfl
      case c3 => unfold maxLen; omega
      case c4 => omega
      case c5 => have := (unhide HP).2.size; simp; omega
      intro v' w1 hown' hg _
      have HN := hide ((unhide HP).grow (unhide HU2) hown' hg)
      obtain ⟨ao', cap', rfl⟩ := owns_shape hown'
      clear hown' hg
      have hrun := own_run (unhide HN) (by simp)
      have e2 : uintB f u = [UInt8.ofNat u] := by cases f <;> simp [uintB, hlt]
      have HE : Hid (acc ++ [UInt8.ofNat u] = uintB 9 v) := by
        show acc ++ [UInt8.ofNat u] = uintB 9 v
        rw [← e2]; exact (unhide H).2.2
      clear e2
      go_wp2
      go_ret
      rw [← unhide HE]
      exact ⟨rfl, (unhide HN).2⟩
    · have hui : (128 : Int) ≤ (u : Int) := by omega
      have hu2 : (u : Int) % 128 + 128 = ((UInt8.ofNat (u % 128 + 128)).toNat : Int) := by simp; omega
      have HU2 := hide hu2
      clear hu2
      go_wp2_with (at_builtin; refine wpList_put _ rfl (.tmp 6) (.tmp 11) 111 rfl w.heap.size 5 i0 (.int .u8 0) 1 1 Try.underlying111 hi hz0 hz1 hz2 rfl (by decide) _ _ _ rfl ((unhide HP).1.alloc _) ⟨wr.heap.size, 0, none⟩ 1 1 [.int .u8 ((u : Int) % 128 + 128)] rfl rfl ?c1 ?c2 ?c3 ?c4 ?c5 ?_)
      case c1 => intro j u hj; match j, hj with | 0, hj => simp at hj; subst hj; simp [Addr.add]
      case c2 => intro u hu; simp at hu; subst hu; rfl
      case c3 => unfold maxLen; omega
      case c4 => omega
      case c5 => have := (unhide HP).2.size; simp; omega
      intro v' w1 hown' hg _
      have HN := hide ((unhide HP).grow (unhide HU2) hown' hg)
      obtain ⟨ao', cap', rfl⟩ := owns_shape hown'
      clear hown' hg
      go_wp2
      go_roundw
      case rel =>
        obtain ⟨k1, k2, k3⟩ := unhide H
        match f, k1, k2, k3 with
        | 0, k1, _, _ => exact absurd k1 (by omega)
        | f + 1, k1, k2, k3 =>
        rw [uintB, if_neg hlt] at k3
        refine ⟨u / 128, f, acc ++ [UInt8.ofNat (u % 128 + 128)], ao', cap', by omega, by go_num, by simp, by simp; omega, hide (by simpa using unhide HN), hide ⟨?_, by simp; omega, by simpa using k3⟩⟩
        rw [Nat.pow_succ] at k1
        omega
      case measure => simp [RowKit.intOf]; omega
theorem mwText (t : ByteArray) (w : World) (ht : t.size ≤ 1048576) :
    Calls Try.prog 108 #[.string t] w fun e w' => e = .returned (.string ⟨(uintB 9 t.size ++ t.data.toList).toArray⟩) ∧ Below w.heap.size w w' := by
  have HU := hide (mwUint t.size w (by omega))
  have hl := (uintB_length 9 t.size).2
  have he : (⟨(uintB 9 t.size ++ t.data.toList).toArray⟩ : ByteArray) = ⟨(uintB 9 t.size).toArray⟩ ++ t := by
    apply ByteArray.ext
    simp [ByteArray.data_append]
  rw [he]
  have hsz : (⟨(uintB 9 t.size).toArray⟩ : ByteArray).size ≤ 10 := by
    show (uintB 9 t.size).toArray.size ≤ 10
    rw [List.size_toArray]; exact hl
  generalize (⟨(uintB 9 t.size).toArray⟩ : ByteArray) = F at *
  clear he hl
  go_enter Try.func108, Try.ntmps108
  go_wp2_with fail
  refine (unhide HU).mono ?_
  rintro e w1 ⟨rfl, hb⟩
  have HB := hide hb
  clear hb
  go_wp2
  go_ret
  exact ⟨rfl, unhide HB⟩
end Go.Proofs.Ytppmpomfihalfaa.W
