/- Cut out of the texts of elder seats by cut.py and less.py. -/
import Derived.Test.YtbahlfpcbplofaaXw
import Derived.Test.YtbahlfpcbplofaaXu
import Derived.Test.YtbahlfpcbplofaaYw
import Derived.WalkKit
import Derived.WalkLawsBesides
import Derived.ProofKit
import Derived.OpenShut
import Derived.Handy
import Derived.ArgAppend
import Derived.Lib.AppendStr
import Derived.Laws.BitsAllLaws
import Derived.Laws.IdiomStrings
namespace Go.Proofs.Ytbahlfpcbplofaa.W
open Go.RowKit Go.Lib
/-- the lowest n bytes, the highest first -/
def fixB (v n : Nat) : List UInt8 := (List.range n).map fun i => UInt8.ofNat (v / 256 ^ (n - 1 - i))
theorem fixB_length (v n : Nat) : (fixB v n).length = n := by simp [fixB]
theorem fixB_take (v n k : Nat) (h : k < n) : (fixB v n).take (k + 1) = (fixB v n).take k ++ [UInt8.ofNat (v / 256 ^ (n - 1 - k))] := by
  rw [List.take_succ_eq_append_getElem (by rw [fixB_length]; exact h)]
  simp [fixB]

theorem byte_at (v m : Nat) : UInt8.ofNat (((v : Int) / 2 ^ (8 * m) % 256).toNat) = UInt8.ofNat (v / 256 ^ m) := by
  have e : ((v : Int) / 2 ^ (8 * m) % 256).toNat = v / 256 ^ m % 256 := by
    have h1 : ((2 : Int) ^ (8 * m)) = ((2 ^ (8 * m) : Nat) : Int) := by simp
    rw [h1, Nat.pow_mul]
    have h2 : ((v : Int) / ((2 ^ 8) ^ m : Nat) % 256) = ((v / (2 ^ 8) ^ m % 256 : Nat) : Int) := by
      rw [Int.natCast_emod, Int.natCast_ediv]; rfl
    rw [h2]; rfl
  rw [e]
  apply UInt8.toNat.inj
  simp
theorem byte_rng (x : Int) : 0 ≤ x % 256 ∧ x % 256 < 256 := by omega
set_option maxHeartbeats 400000 in
theorem wLowest (a r : Nat) (bs : List UInt8) (v : Nat) (n : Nat) (w : World) (h : Wr w a r bs) (hn : n ≤ 8) (hl : bs.length + 8 ≤ 140737488355328) :
    Calls Try.prog 96 #[.pointer (some ⟨a, 0, none⟩), .int .u64 v, .int .i64 n] w fun e w' => e = .returned (.tuple #[]) ∧ ∃ r', Put w w' a r r' (bs ++ fixB v n) := by
  go_enter Try.func96, Try.ntmps96
  go_wp2
  go_loopw [8] (fun i wr => ∃ k r' : Nat, k ≤ n ∧ i = .int .i64 k ∧ Put w wr a r r' (bs ++ (fixB v n).take k)) (fun i _ => n - (RowKit.intOf i).toNat)
  case atStart => exact ⟨0, r, Nat.zero_le _, rfl, by simpa using Put.refl h⟩
  case round =>
    obtain ⟨k, r1, hk, rfl, hp⟩ := hrel
    by_cases hlt : k < n
    · have H := hide hp
      clear hp
      go_wp2_with fail
      refine (wByte a r1 _ _ _ (unhide H).1 (byte_rng _).1 (byte_rng _).2 ?_).mono ?_
      · have := fixB_length v n; simp; omega
      rintro e w1 ⟨rfl, hp1⟩
      have H1 := hide hp1
      clear hp1
      go_wp2
      go_roundw
      case rel =>
        obtain ⟨r2, hp2⟩ := unhide H1
        refine ⟨k + 1, r2, by omega, by go_num, ?_⟩
        rw [byte_at, List.append_assoc, ← fixB_take v n k hlt] at hp2
        exact (unhide H).trans hp2
      case measure => simp [RowKit.intOf]; omega
    · have H := hide hp
      clear hp
      go_wp2
      go_returns
      have hkn : k = n := by omega
      subst hkn
      have hp := unhide H
      rw [List.take_of_length_le (by rw [fixB_length]; exact Nat.le_refl _)] at hp
      exact ⟨rfl, r1, hp⟩
theorem wLowestI (a r : Nat) (bs : List UInt8) (x : Int) (n : Int) (w : World) (h : Wr w a r bs) (hx : 0 ≤ x) (h0 : 0 ≤ n) (hn : n ≤ 8) (hl : bs.length + 8 ≤ 140737488355328) :
    Calls Try.prog 96 #[.pointer (some ⟨a, 0, none⟩), .int .u64 x, .int .i64 n] w fun e w' => e = .returned (.tuple #[]) ∧ ∃ r', Put w w' a r r' (bs ++ fixB x.toNat n.toNat) := by
  obtain ⟨X, rfl⟩ := Int.eq_ofNat_of_zero_le hx
  obtain ⟨m, rfl⟩ := Int.eq_ofNat_of_zero_le h0
  exact wLowest a r bs X m w h (by omega) hl
theorem pow8 (m : Nat) : ((2 : Int) ^ (8 * m)) = ((256 ^ m : Nat) : Int) := by
  have e : (256 : Nat) ^ m = 2 ^ (8 * m) := (Nat.pow_mul 2 8 m).symm
  rw [e]; simp
theorem wFixed (a r : Nat) (bs : List UInt8) (v : Nat) (n : Int) (w : World) (h : Wr w a r bs) (hn0 : 1 ≤ n) (hn1 : n ≤ 8) (hv : v < 256 ^ n.toNat) (hl : bs.length + 8 ≤ 140737488355328) :
    Calls Try.prog 83 #[.pointer (some ⟨a, 0, none⟩), .int .u64 v, .int .i64 n] w fun e w' => e = .returned (.int .i64 0) ∧ ∃ r', Put w w' a r r' (bs ++ fixB v n.toNat) := by
  have H := hide h
  clear h
  obtain ⟨m, rfl⟩ := Int.eq_ofNat_of_zero_le (by omega : 0 ≤ n)
  have hz' : ((v : Int) / 2 ^ (8 * m) != 0) = false := by
    have hz : (v : Int) / 2 ^ (8 * m) = 0 := by
      rw [pow8, ← Int.natCast_ediv, Nat.div_eq_of_lt (by simpa using hv)]; rfl
    rw [hz]; rfl
  clear hv
  go_enter Try.func83, Try.ntmps83
  go_wp2_with fail
  refine (wLowestI a r bs _ _ _ (unhide H) (by omega) (by omega) (by omega) hl).mono ?_
  rintro e w1 ⟨rfl, hp⟩
  have H1 := hide hp
  clear hp
  go_wp2
  go_ret
  exact ⟨rfl, unhide H1⟩
end Go.Proofs.Ytbahlfpcbplofaa.W
