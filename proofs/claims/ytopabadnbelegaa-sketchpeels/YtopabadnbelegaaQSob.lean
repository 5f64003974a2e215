/- Sorting numbers of 64 bits: reverseRange; order2, median, medianAdjacent. -/
import Derived.Test.YtopabadnbelegaaQSoa
namespace Go.Proofs.Ytopabadnbelegaa.K
open Go.RowKit Go.Lib
theorem rev_go (i j : Nat) (d : Array (BitVec 64)) (h : i < j) : Sort.reverseLoop i j d = Sort.reverseLoop (i + 1) (j - 1) (Sort.swp d i j) := by rw [Sort.reverseLoop, if_pos h]
theorem rev_no (i j : Nat) (d : Array (BitVec 64)) (h : ¬ i < j) : Sort.reverseLoop i j d = d := by rw [Sort.reverseLoop, if_neg h]
theorem atS (a b : Nat) (h : a < b) : Hid (a ≤ b ∧ b - 1 < b) := ⟨by omega, by omega⟩
set_option maxRecDepth 100000 in
set_option maxHeartbeats 4000000 in
theorem kRev (g c a b n N : Nat) (t : TypeId) (d : Array (BitVec 64)) (u : World) (h : Rw u g t N d) (hn : n = d.size) (hab : a < b) (hb : b ≤ n) (hm : n ≤ 17592186044416) : Calls Try.prog 59 #[.slice (some ⟨g, 0, none⟩) n c, .int .i64 (a : Int), .int .i64 (b : Int)] u fun e u' => e = .returned (.tuple #[]) ∧ So u u' g t N (Sort.reverseRange d a b) := by
  have HI := hide (fun i (hi : i < n) => ixW g n c i hi)
  have HS0 : Hid (So u u g t N d) := ⟨h, Alt.refl _ _⟩
  have hai : (a : Int) ≤ 17592186044416 := by omega
  have hbi : (b : Int) ≤ 17592186044416 := by omega
  have hb1 : wrap64 ((b : Int) - 1) = ((b - 1 : Nat) : Int) := by simp only [wrap64]; omega
  have hb2 : (b : Int) - 1 = ((b - 1 : Nat) : Int) := by omega
  have HN := hide hn
  have HB := hide hb
  have HAB := hide hab
  clear h hn hm hab hb
  go_enter Try.func59, Try.ntmps59
  go_wp2
  go_loopw [6, 7] (fun s6 s7 wr => ∃ (i j : Nat) (dk : Array (BitVec 64)), s6 = .int .i64 (i : Int) ∧ s7 = .int .i64 (j : Int) ∧ Hid (i ≤ b ∧ j < b) ∧ Hid (dk.size = n) ∧ Hid (So u wr g t N dk) ∧ Hid (Sort.reverseLoop i j dk = Sort.reverseLoop a (b - 1) d)) (fun _ s7 _ => (intOf s7).toNat)
  case atStart => exact ⟨a, b - 1, d, rfl, rfl, atS a b (unhide HAB), (unhide HN).symm, HS0, rfl⟩
  case round =>
    clear HS0
    obtain ⟨i, j, dk, rfl, rfl, HIJ, HZ, HS, HO⟩ := hrel
    obtain ⟨hib, hjb⟩ := unhide HIJ
    have hbn := unhide HB
    by_cases hlt : i < j
    · have hii : (i : Int) < (j : Int) := by omega
      have hjn : j < n := by omega
      have hin : i < n := by omega
      have ix1 := unhide HI i hin
      have ix2 := unhide HI j hjn
      have hjz : j < dk.size := by rw [unhide HZ]; exact hjn
      have hiz : i < dk.size := by rw [unhide HZ]; exact hin
      obtain ⟨c1, f1⟩ := (unhide HS).rw'.cell i hiz
      obtain ⟨c2, f2⟩ := (unhide HS).rw'.cell j hjz
      have HSW := hide ((unhide HS).swap i j hiz hjz)
      have HSZ : Hid ((Sort.swp dk i j).size = n) := (swp_size dk i j).trans (unhide HZ)
      have HII : Hid (i + 1 ≤ b ∧ j - 1 < b) := ⟨by omega, by omega⟩
      have hi1 : wrap64 ((i : Int) + 1) = ((i + 1 : Nat) : Int) := by simp only [wrap64]; omega
      have HGO := hide (rev_go i j dk hlt)
      have hj1 : wrap64 ((j : Int) - 1) = ((j - 1 : Nat) : Int) := by simp only [wrap64]; omega
      generalize dk[i]! = y1 at *
      generalize dk[j]! = y2 at *
      have HLT := hide hlt
      clear hjz hiz hjn hin hlt hib hjb hbn
      go_wp2
      go_region
      go_wp2
      go_roundw
      case rel =>
        refine ⟨i + 1, j - 1, Sort.swp dk i j, ?_, ?_, HII, HSZ, ⟨(unhide HSW).rw'.drew, (unhide HSW).alt.drew⟩, ?_⟩
        · rw [hi1]
        · rw [hj1]
        · exact (unhide HGO).symm.trans (unhide HO)
      case measure =>
        rw [hj1]
        have hl := unhide HLT
        show ((j - 1 : Nat) : Int).toNat < (j : Int).toNat
        omega
    · have hii : ¬ (i : Int) < (j : Int) := by omega
      have HEN : Hid (Sort.reverseRange d a b = dk) := by
        show _ = _
        unfold Sort.reverseRange
        rw [← unhide HO, rev_no _ _ _ hlt]
      go_wp2
      go_returns
      exact ⟨rfl, by rw [unhide HEN]; exact unhide HS⟩
end Go.Proofs.Ytopabadnbelegaa.K
