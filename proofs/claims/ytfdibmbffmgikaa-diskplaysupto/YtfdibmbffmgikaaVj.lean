/- The disk's laws, beside the document's disk: any step; a script. -/
import Derived.Test.YtfdibmbffmgikaaVi
namespace Go.Proofs.Ytfdibmbffmgikaa
open Go.RowKit Go.Lib

theorem Dk.stepped_pend (d : Dk) (x : St) : (d.stepped x).pend.length ≤ d.pend.length + 1 := by
  unfold Dk.stepped Dk.write Dk.sync Dk.fused Dk.crash
  repeat' split
  all_goals first
    | (simp only [Dk.put, Dk.asked_pend, List.length_append, List.length_singleton]; omega)
    | (rw [d.asked_pend]; omega)
    | (show ([] : List (Nat × List UInt8)).length ≤ _; simp)
    | (show d.pend.length ≤ _; omega)
/-- what the law asks of a step's sizes -/
def St.Small (x : St) : Prop := x.s.size ≤ 1048576 ∧ x.ks.length ≤ 1048576
section
variable {B : Nat} {w : World} {D M : Nat} {F G : List Nat} {d : Dk}
theorem lStep (h : Two B w D M F G d d) (hB : B ≤ w.heap.size) (hm : d.pend.length ≤ 2000000) (x : St) (hx : x.Ok) (hK : Kb w B x.kao x.ks) (hs : x.Small) : Calls Try.prog 22 #[.pointer (some ⟨D, 0, none⟩), .pointer (some ⟨M, 0, none⟩), .agg x.cs] w fun e w' => e = .returned (.bool true) ∧ SP B w w' D M F G (d.stepped x) := by
  unfold Dk.stepped
  by_cases h0 : x.kind = 0
  · rw [if_pos h0]; exact lStep0 h hB hm x hx hs.1 h0
  rw [if_neg h0]
  by_cases h1 : x.kind = 1
  · rw [if_pos h1]; exact lStep1 h hB hm x hx h1
  rw [if_neg h1]
  by_cases h2 : x.kind = 2
  · rw [if_pos h2]; exact lStep2 h hB hm x hx h2
  rw [if_neg h2]
  by_cases h3 : x.kind = 3
  · rw [if_pos h3]; exact lStep3 h hB hm x hx h3
  rw [if_neg h3]
  by_cases h4 : x.kind = 4
  · rw [if_pos h4]; exact lStep4 h hB hm x hK hs.2 h4
  rw [if_neg h4]
  exact lStepD h hB hm x hx h0 h1 h2 h3 h4
theorem SP.below {w' : World} {d' : Dk} (h : Two B w D M F G d d) (hB : B ≤ w.heap.size) (hs : SP B w w' D M F G d') : Below B w w' ∧ ∃ F' G', Two B w' D M F' G' d' d' := by
  obtain ⟨F', G', h1, h2, _, _⟩ := hs
  exact ⟨h2.below hB (fun k hk => (h.ge k hk).1), F', G', h1⟩
set_option maxRecDepth 100000 in
set_option maxHeartbeats 4000000 in
theorem lPlays (h : Two B w D M F G d d) (hB : B ≤ w.heap.size) (hp : d.pend.length ≤ 0) (l : List St) (ao : Option Addr) (cap : Nat) (hS : Sts w B ao l) (hl : ∀ x ∈ l, x.Small) (hn : l.length ≤ 1048576) :
    Calls Try.prog 27 #[.pointer (some ⟨D, 0, none⟩), .pointer (some ⟨M, 0, none⟩), .slice ao l.length cap] w fun e w' => e = .returned (.bool true) ∧ Below B w w' := by
  obtain ⟨m, hm⟩ : ∃ m, m = l.length := ⟨_, rfl⟩
  have HM := hide hm
  have HH := hide (And.intro h (And.intro hB hp))
  have HS := hide hS
  have HL := hide hl
  have hm1 : m ≤ 1048576 := by omega
  have hmi : (m : Int) ≤ 1048576 := by omega
  rw [← hm]
  clear h hB hp hS hl hn hm
  go_enter Try.func27, Try.ntmps27
  go_wp2
  go_loopw [7] (fun vi wr => ∃ (k : Nat) (F G : List Nat) (d : Dk), k ≤ m ∧ vi = .int .i64 k ∧ Hid (Two B wr D M F G d d ∧ Below B w wr ∧ d.pend.length ≤ k)) (fun vi _ => m - (intOf vi).toNat)
  case atStart => exact ⟨0, F, G, d, Nat.zero_le _, rfl, (unhide HH).1, Below.refl _ _, (unhide HH).2.2⟩
  case round =>
    have HBB := hide (unhide HH).2.1
    clear HH
    obtain ⟨k, F, G, d, hk, rfl, HI⟩ := hrel
    by_cases hlt : k < m
    · have hki : (k : Int) < (m : Int) := by omega
      have hkl : k < l.length := by rw [← unhide HM]; exact hlt
      obtain ⟨sb, so, hao, hbB, hat⟩ := ((unhide HS).below (unhide HI).2.1).at' (by omega)
      subst hao
      have HAT := hide (hat k hkl)
      have HOK := hide ((unhide HS).ok _ (List.getElem_mem hkl))
      have HSM := hide (unhide HL _ (List.getElem_mem hkl))
      have HKB := hide (((unhide HS).ks _ (List.getElem_mem hkl)).below (unhide HI).2.1)
      have hix := ixSteps sb so m cap k hlt
      clear hat hbB
      obtain ⟨x, hx⟩ : ∃ x, x = l[k] := ⟨_, rfl⟩
      rw [← hx] at HAT HOK HSM HKB
      clear hx hkl
      obtain ⟨o7, ho7⟩ : ∃ z, z = so + k * 7 := ⟨_, rfl⟩
      rw [← ho7] at hix HAT
      clear ho7
      have HR7 := hide (unhide HAT).range
      obtain ⟨C, hC⟩ : ∃ C, C = x.cs := ⟨_, rfl⟩
      have HC1 : Hid (C.size = 7) := by rw [hC]; exact x.cs_size
      rw [← hC] at HR7
      have HBW : Hid (B ≤ wr.heap.size) := Nat.le_trans (unhide HBB) (unhide HI).2.1.size
      have HST := hide (lStep (unhide HI).1 (unhide HBW) (by have := (unhide HI).2.2; omega) x (unhide HOK) (unhide HKB) (unhide HSM))
      rw [← hC] at HST
      clear hC
      go_wp2_with (refine wpList_load_mid (by rfl) 47 (.tmp 20) (by rfl) sb o7 (by rfl) C.toList _ (unhide HR7) stepUnd rfl (by rw [Array.length_toList, unhide HC1]; exact stepInfo) ?_; simp only [Act.put, List.setIfInBounds_toArray, List.set_cons_zero, List.set_cons_succ, Array.toArray_toList])
      refine (unhide HST).mono ?_
      rintro e w2 ⟨rfl, hsp⟩
      have HNX : Hid (∃ F' G', Two B w2 D M F' G' (d.stepped x) (d.stepped x) ∧ Below B w w2 ∧ (d.stepped x).pend.length ≤ k + 1) := by
        obtain ⟨hb, F', G', ht⟩ := hsp.below (unhide HI).1 (unhide HBW)
        exact ⟨F', G', ht, (unhide HI).2.1.trans hb, by have := d.stepped_pend x; have := (unhide HI).2.2; omega⟩
      clear hsp HST HR7 HAT
      go_wp2
      go_roundw
      case rel =>
        obtain ⟨F', G', h1, h2, h3⟩ := unhide HNX
        exact ⟨k + 1, F', G', d.stepped x, by omega, by go_num, h1, h2, h3⟩
      case measure => simp [intOf]; omega
    · have hkk : k = m := by omega
      subst hkk
      go_wp2_with fail
      refine (lAsked (unhide HI).1).mono ?_
      rintro e w2 ⟨rfl, hu⟩
      have HB2 : Hid (Below B w w2) := (unhide HI).2.1.trans (hu.below (Nat.le_trans (unhide HBB) (unhide HI).2.1.size) (fun k hk => by cases hk))
      clear hu
      go_wp2
      go_ret
      exact ⟨rfl, unhide HB2⟩
end
end Go.Proofs.Ytfdibmbffmgikaa
