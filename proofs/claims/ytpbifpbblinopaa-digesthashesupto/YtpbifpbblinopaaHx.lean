/- Hexadecimal digits: Hex, by the program and by the document. -/
import Derived.Test.YtpbifpbblinopaaHxB
import Derived.Test.YtpbifpbblinopaaOwn
import Derived.Laws.BitsAllLaws
import Derived.Deep.QuietTactic
import Derived.Deep.RegionHeld3
import Derived.Lib.ConvBytes
namespace Go.Proofs.Ytpbifpbblinopaa
open Go.RowKit

def dig (n : Nat) : UInt8 := UInt8.ofNat (if n < 10 then 48 + n else 87 + n)
def hexB (b : UInt8) : List UInt8 := [dig (b.toNat / 16), dig (b.toNat % 16)]
def hexS (l : List UInt8) : List UInt8 := l.flatMap hexB
theorem hexS_snoc (l : List UInt8) (b : UInt8) : hexS (l ++ [b]) = hexS l ++ [dig (b.toNat / 16)] ++ [dig (b.toNat % 16)] := by simp [hexS, hexB]
theorem hexS_length (l : List UInt8) : (hexS l).length = 2 * l.length := by
  induction l with
  | nil => rfl
  | cons a l ih =>
    have : hexS (a :: l) = hexB a ++ hexS l := rfl
    rw [this, List.length_append, ih]; simp [hexB]; omega
theorem take_snoc' (s : ByteArray) (k : Nat) (h : k < s.size) : s.data.toList.take (k + 1) = s.data.toList.take k ++ [s[k]] := by
  rw [List.take_succ_eq_append_getElem (by simpa using h)]; rfl
theorem run_dig (m : Nat) (w : World) (hm : m < 16) : (Instr.index 9 (.string ⟨#[48, 49, 50, 51, 52, 53, 54, 55, 56, 57, 97, 98, 99, 100, 101, 102]⟩) (.int .u8 (m : Int))).run Try.prog w = .ok (.int .u8 ((dig m).toNat : Int)) w := by
  have key : ∀ m : Fin 16, (⟨#[48, 49, 50, 51, 52, 53, 54, 55, 56, 57, 97, 98, 99, 100, 101, 102]⟩ : ByteArray)[m.1]? = some (dig m.1) := by decide +kernel
  have := key ⟨m, hm⟩
  simp only at this
  simp [Instr.index, go_sem, run_underlying Try.underlying9, this]
theorem run_digI (m : Nat) (w : World) (hm : m < 16) : (Instr.index 9 (.string ⟨#[48, 49, 50, 51, 52, 53, 54, 55, 56, 57, 97, 98, 99, 100, 101, 102]⟩) (.int .i64 (m : Int))).run Try.prog w = .ok (.int .u8 ((dig m).toNat : Int)) w := by
  have key : ∀ m : Fin 16, (⟨#[48, 49, 50, 51, 52, 53, 54, 55, 56, 57, 97, 98, 99, 100, 101, 102]⟩ : ByteArray)[m.1]? = some (dig m.1) := by decide +kernel
  have := key ⟨m, hm⟩
  simp only at this
  simp [Instr.index, go_sem, run_underlying Try.underlying9, this]
theorem and15 (x : Nat) (hx : x < 256) : bits .and .u8 (x : Int) 15 = ((x % 16 : Nat) : Int) := by
  have h := u8_and_nat x 15 hx (by decide)
  rw [show ((15 : Nat) : Int) = 15 from rfl] at h
  rw [h]
  congr 1
  exact Nat.and_two_pow_sub_one_eq_mod x 4
theorem bc_append (a b : List UInt8) : Lib.byteCells (a ++ b) = Lib.byteCells a ++ Lib.byteCells b := by simp [Lib.byteCells]
theorem bc_length (a : List UInt8) : (Lib.byteCells a).length = a.length := by simp [Lib.byteCells]
set_option maxRecDepth 100000 in
set_option maxHeartbeats 1000000 in
theorem dHex (s : ByteArray) (w : World) (hs : 2 * s.size + 2 ≤ 140737488355328) :
    Calls Try.prog 35 #[.string s] w fun e w' => e = .returned (.string ⟨(hexS s.data.toList).toArray⟩) ∧ Below w.heap.size w w' := by
  have hg := fun u h1 h2 h3 => Try.Builder_Grow_fresh w.heap.size w.heap.size (2 * s.size) u (Nat.le_refl _) h1 h2 h3
  have HG := hide hg
  clear hg
  go_enter Try.func35, Try.ntmps35
  go_wp2_with fail
  rw [show (2 : Int) * (s.size : Int) = ((2 * s.size : Nat) : Int) from by omega]
  refine (unhide HG _ (heap_alloc_new _ _) (by simp) (by omega)).mono ?_
  rintro e w1 ⟨rfl, hbd, hbel⟩
  have HI : Hid (Lib.BuilderAt 76 5 w.heap.size w.heap.size (.pointer (some ⟨w.heap.size, 0, none⟩)) (Lib.byteCells (hexS (s.data.toList.take 0))) w1 ∧ Below w.heap.size w w1) := ⟨hbd, ((Below.refl _ _).alloc (Nat.le_refl _) _).trans hbel⟩
  clear hbd hbel
  go_wp2
  go_loopw [11] (fun i wr => ∃ k : Nat, k ≤ s.size ∧ i = .int .i64 k ∧ Hid (Lib.BuilderAt 76 5 w.heap.size w.heap.size (.pointer (some ⟨w.heap.size, 0, none⟩)) (Lib.byteCells (hexS (s.data.toList.take k))) wr ∧ Below w.heap.size w wr)) (fun i _ => s.size - (intOf i).toNat)
  case atStart => exact ⟨0, Nat.zero_le _, rfl, HI⟩
  case round =>
    clear HI
    obtain ⟨k, hk, rfl, HI⟩ := hrel
    by_cases hlt : k < s.size
    · have hsn : Hid (Lib.byteCells (hexS (s.data.toList.take (k + 1))) = Lib.byteCells (hexS (s.data.toList.take k)) ++ [.int .u8 ((dig (s[k].toNat / 16)).toNat : Int)] ++ [.int .u8 ((dig (s[k].toNat % 16)).toNat : Int)]) := by
        show Lib.byteCells _ = _
        rw [take_snoc' s k hlt, hexS_snoc, bc_append, bc_append]; rfl
      have hb := s[k].toNat_lt
      have hL : Hid ((Lib.byteCells (hexS (s.data.toList.take k))).length = 2 * k) := by
        show List.length _ = _
        rw [bc_length, hexS_length, List.length_take]
        have : s.data.toList.length = s.size := rfl
        omega
      obtain ⟨m1, hm1⟩ : ∃ m, m = s[k].toNat / 16 := ⟨_, rfl⟩
      obtain ⟨m2, hm2⟩ : ∃ m, m = s[k].toNat % 16 := ⟨_, rfl⟩
      have ha := and15 s[k].toNat hb
      rw [← hm2] at ha hsn
      rw [← hm1] at hsn
      have hd1 := fun u => run_dig m1 u (by omega)
      have hd2 := fun u => run_dig m2 u (by omega)
      have hki : (k : Int) < (s.size : Int) := by omega
      have hq : (s[k].toNat : Int) / 16 = (m1 : Int) := by omega
      clear hm1 hm2
      generalize Lib.byteCells (hexS (s.data.toList.take k)) = acc at *
      have hbl := (unhide HI).2.size
      have hbi : (s[k].toNat : Int) < 256 := by omega
      have hbi0 : (0 : Int) ≤ (s[k].toNat : Int) := by omega
      clear hb
      go_wp2_with fail
      refine (bWriteByte w.heap.size w.heap.size acc _ _ (unhide HI).1 (by rw [unhide hL]; omega) hbl).mono ?_
      rintro e w2 ⟨rfl, hb1, hbel1⟩
      have H1 := hide hb1
      have H2 := hide hbel1
      have hbl2 := Nat.le_trans hbl hbel1.size
      clear hb1 hbel1
      go_wp2_with fail
      refine (bWriteByte w.heap.size w.heap.size _ _ _ (unhide H1) (by rw [List.length_append, unhide hL]; simp; omega) hbl2).mono ?_
      rintro e w3 ⟨rfl, hb1, hbel1⟩
      have H3 := hide hb1
      have H4 := hide hbel1
      clear hb1 hbel1
      go_wp2
      go_roundw
      case rel =>
        refine ⟨k + 1, by omega, by go_num, hide ⟨?_, ((unhide HI).2.trans (unhide H2)).trans (unhide H4)⟩⟩
        have e := unhide hsn
        rw [e]
        exact unhide H3
      case measure => simp [intOf]; omega
    · have hkk : k = s.size := by omega
      subst hkk
      have he : Hid (s.data.toList.take s.size = s.data.toList) := List.take_of_length_le (Nat.le_refl _)
      have hbl := (unhide HI).2.size
      go_wp2_with fail
      refine (Try.Builder_String_any w.heap.size w.heap.size _ _ (.inr (unhide HI).1) hbl).mono ?_
      rintro e w2 ⟨rfl, hbel⟩
      have H2 := hide hbel
      clear hbel
      go_wp2
      go_ret
      exact ⟨by have e := unhide he; rw [e]; rfl, (unhide HI).2.trans (unhide H2)⟩
end Go.Proofs.Ytpbifpbblinopaa
