/- Cut out of the texts of elder seats by cut.py and less.py. -/
import Derived.Test.YtopabadnbelegaaQ01
import Derived.WalkKit
import Derived.WalkLawsBesides
import Derived.ProofKit
import Derived.OpenShut
import Derived.Handy
import Derived.ArgAppend
import Derived.Lib.AppendStr
import Derived.Laws.BitsAllLaws
import Derived.Laws.IdiomStrings
namespace Go.Proofs.Ytopabadnbelegaa.W
open Go.RowKit Go.Lib
/-- a row of bytes of one's own -/
def OwnB (w wr : World) (v : Value) (bs : List UInt8) : Prop := wr.ownsRow w.heap.size 5 1 v bs.length (Bs bs) ∧ Below w.heap.size w wr
theorem OwnB.block {w wr : World} {v : Value} {bs : List UInt8} (h : OwnB w wr v bs) {g : Nat} (hg : v.ownBlock = some g) : w.heap.size ≤ g := by
  rcases h.1.2 with ⟨hv, _⟩ | ⟨g', cap, cur, hv, hb, _⟩
  · rw [hv] at hg; cases hg
  · rw [hv] at hg; cases hg; exact hb
theorem OwnB.grow {w wr w1 : World} {o : Obj} {v v' : Value} {bs : List UInt8} {b : UInt8} {x : Int} (h : OwnB w wr v bs) (hx : x = (b.toNat : Int)) (ho : w1.ownsRow w.heap.size 5 1 v' (bs.length + 1) (Bs bs ++ [.int .u8 x])) (hg : (wr.alloc o).grownBy w1 v.ownBlock) : OwnB w w1 v' (bs ++ [b]) := by
  subst hx
  refine ⟨by rw [Bs_append, List.length_append]; exact ho, ?_⟩
  obtain ⟨g1, g2, g3, g4, g5⟩ := hg
  have hb := h.2.alloc (h.2.size) o
  refine ⟨g1.trans hb.os, g2.trans hb.tape, g3.trans hb.output, Nat.le_trans hb.size g4, fun k hk => ?_⟩
  rw [← hb.block k hk]
  refine g5 k (Nat.lt_of_lt_of_le hk hb.size) fun e => ?_
  have := h.block e.symm
  omega
theorem own_run {w wr : World} {bs : List UInt8} {ao : Option Addr} {n cap : Nat} (h : OwnB w wr (.slice ao n cap) bs) (hn : n = bs.length) :
    (convert 81 9 (.slice ao n cap)).run Try.prog wr = .ok (.string ⟨bs.toArray⟩) wr := by
  subst hn
  rcases h.1.2 with ⟨e, hn⟩ | ⟨g, cap', cur, e, _⟩
  · have hb : bs = [] := List.eq_nil_of_length_eq_zero hn
    subst hb
    cases e
    exact run_convert_bytes_nil wr 81 5 Try.underlying81 Try.underlying5 _ _ 9 Try.underlying9
  · cases e
    refine run_convert_bytes_back wr 81 9 5 ⟨g, 0, none⟩ cap bs Try.underlying81 Try.underlying5 Try.underlying9 fun j hj => ?_
    refine h.1.cells rfl j _ ?_
    simp [Bs, hj]
set_option maxRecDepth 100000 in
set_option maxHeartbeats 1000000 in
theorem mwUint (v : Nat) (w : World) (hv : v < 18446744073709551616) :
    Calls Try.prog 52 #[.int .u64 v] w fun e w' => e = .returned (.string ⟨(uintB 9 v).toArray⟩) ∧ Below w.heap.size w w' := by
  obtain ⟨i0, hi, hz0, hz1, hz2⟩ := info_parts info5
  go_enter Try.func52, Try.ntmps52
  go_wp2
  go_loopw [0, 3] (fun x y wr => ∃ (u f : Nat) (acc : List UInt8) (ao : Option Addr) (cap : Nat), u < 18446744073709551616 ∧ x = .int .u64 u ∧ y = .slice ao acc.length cap ∧ acc.length ≤ 9 ∧ Hid (OwnB w wr (.slice ao acc.length cap) acc) ∧ Hid (u < 128 ^ (f + 1) ∧ acc.length + f = 9 ∧ acc ++ uintB f u = uintB 9 v)) (fun x _ _ => (RowKit.intOf x).toNat)
  case atStart => exact ⟨v, 9, [], none, 0, hv, rfl, rfl, by simp, hide ⟨World.ownsRow_nil _ _ _ _, Below.refl _ _⟩, hide ⟨by omega, by simp, rfl⟩⟩
  case round =>
    obtain ⟨u, f, acc, ao, cap, hu, rfl, rfl, hacc, HP, H⟩ := hrel
    by_cases hlt : u < 128
    · have hui : (u : Int) < 128 := by omega
      have hu2 : (u : Int) = ((UInt8.ofNat u).toNat : Int) := by simp; omega
      have HU2 := hide hu2
      clear hu2
      go_wp2_with (at_builtin; refine wpList_put _ rfl (.tmp 15) (.tmp 18) 81 rfl w.heap.size 5 i0 (.int .u8 0) 1 1 Try.underlying81 hi hz0 hz1 hz2 rfl (by decide) _ _ _ rfl ((unhide HP).1.alloc _) ⟨wr.heap.size, 0, none⟩ 1 1 [.int .u8 ((u : Int))] rfl rfl ?c1 ?c2 ?c3 ?c4 ?c5 ?_)
      case c1 => intro j u hj; match j, hj with | 0, hj => simp at hj; subst hj; simp [Addr.add]
      case c2 => intro u hu; simp at hu; subst hu; rfl
      case c3 => unfold maxLen; omega
      case c4 => omega
      case c5 => have := (unhide HP).2.size; simp; omega
      intro v' w1 hown' hg _
      have HN := hide ((unhide HP).grow (unhide HU2) hown' hg)
      obtain ⟨ao', cap', rfl⟩ := owns_shape hown'
      clear hown' hg
      have hrun := own_run (unhide HN) (by simp)
      have e2 : uintB f u = [UInt8.ofNat u] := by cases f <;> simp [uintB, hlt]
      have HE : Hid (acc ++ [UInt8.ofNat u] = uintB 9 v) := by
        show acc ++ [UInt8.ofNat u] = uintB 9 v
        rw [← e2]; exact (unhide H).2.2
      clear e2
      go_wp2
      go_ret
      rw [← unhide HE]
      exact ⟨rfl, (unhide HN).2⟩
    · have hui : (128 : Int) ≤ (u : Int) := by omega
      have hu2 : (u : Int) % 128 + 128 = ((UInt8.ofNat (u % 128 + 128)).toNat : Int) := by simp; omega
      have HU2 := hide hu2
      clear hu2
      go_wp2_with (at_builtin; refine wpList_put _ rfl (.tmp 6) (.tmp 11) 81 rfl w.heap.size 5 i0 (.int .u8 0) 1 1 Try.underlying81 hi hz0 hz1 hz2 rfl (by decide) _ _ _ rfl ((unhide HP).1.alloc _) ⟨wr.heap.size, 0, none⟩ 1 1 [.int .u8 ((u : Int) % 128 + 128)] rfl rfl ?c1 ?c2 ?c3 ?c4 ?c5 ?_)
      case c1 => intro j u hj; match j, hj with | 0, hj => simp at hj; subst hj; simp [Addr.add]
      case c2 => intro u hu; simp at hu; subst hu; rfl
      case c3 => unfold maxLen; omega
      case c4 => omega
      case c5 => have := (unhide HP).2.size; simp; omega
      intro v' w1 hown' hg _
      have HN := hide ((unhide HP).grow (unhide HU2) hown' hg)
      obtain ⟨ao', cap', rfl⟩ := owns_shape hown'
      clear hown' hg
      go_wp2
      go_roundw
      case rel =>
        obtain ⟨k1, k2, k3⟩ := unhide H
        match f, k1, k2, k3 with
        | 0, k1, _, _ => exact absurd k1 (by omega)
        | f + 1, k1, k2, k3 =>
        rw [uintB, if_neg hlt] at k3
        refine ⟨u / 128, f, acc ++ [UInt8.ofNat (u % 128 + 128)], ao', cap', by omega, by go_num, by simp, by simp; omega, hide (by simpa using unhide HN), hide ⟨?_, by simp; omega, by simpa using k3⟩⟩
        rw [Nat.pow_succ] at k1
        omega
      case measure => simp [RowKit.intOf]; omega
end Go.Proofs.Ytopabadnbelegaa.W
