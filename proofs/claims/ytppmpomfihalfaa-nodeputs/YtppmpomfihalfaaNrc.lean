/- Nodes, the document's side: keys that rise. -/
import Derived.Test.YtppmpomfihalfaaNrb
namespace Go.Proofs.Ytppmpomfihalfaa
open Go.RowKit

open Classical in
set_option maxRecDepth 100000 in
set_option maxHeartbeats 4000000 in
theorem rRise (ks : List ByteArray) (ka : Option Addr) (kc : Nat) (u : World) (h : Lies u ka (flatK ks)) (hl : ks.length ≤ 2 * 140737488355328) : Calls Try.prog 75 #[.slice ka ks.length kc] u fun e u' => e = .returned (.bool (decide (rises ks))) ∧ Below u.heap.size u u' := by
  have HK := hide h
  clear h
  obtain ⟨r, hr⟩ : ∃ r, r = decide (rises ks) := ⟨_, rfl⟩
  rw [← hr]
  replace hr : r = true ↔ rises ks := by rw [hr]; exact decide_eq_true_iff
  have HR := hide hr
  obtain ⟨kn, hkn⟩ : ∃ kn, kn = ks.length := ⟨_, rfl⟩
  have HKN := hide hkn
  rw [← hkn] at hl ⊢
  have hkni : (kn : Int) ≤ 281474976710656 := by omega
  clear hr hkn hl
  go_enter Try.func75, Try.ntmps75
  go_wp2_with fail
  go_loopw [3] (fun i wq => ∃ k : Nat, 1 ≤ k ∧ (k ≤ kn ∨ k = 1) ∧ i = .int .i64 k ∧ Hid (risen ks k ∧ ∃ z, wq = u.drewN z)) (fun i _ => kn + 1 - (intOf i).toNat)
  case atStart => exact ⟨1, Nat.le_refl _, .inr rfl, rfl, fun i _ h => by omega, 0, rfl⟩
  case round =>
    obtain ⟨m, hm1, hm, rfl, HI⟩ := hrel
    obtain ⟨hri, z, rfl⟩ := unhide HI
    have HRI := hide hri
    clear hri HI
    by_cases hlt : m < kn
    · have hmi : (m : Int) < (kn : Int) := by omega
      have hkl : m < ks.length := by rw [← unhide HKN]; exact hlt
      obtain ⟨k', rfl⟩ : ∃ k', m = k' + 1 := ⟨m - 1, by omega⟩
      obtain ⟨g, o, hao, c2⟩ := (unhide HK).ky hkl
      obtain ⟨g1, o1, hao1, c1⟩ := (unhide HK).ky (i := k') (by omega)
      rw [hao] at hao1
      simp only [Option.some.injEq, Addr.mk.injEq] at hao1
      obtain ⟨rfl, rfl, _⟩ := hao1
      subst hao
      have hw : wrap64 ((k' : Int) + 1 - 1) = (k' : Int) := by rw [Int.add_sub_cancel]; go_unwrap
      have hw2 : IntKind.i64.wrap ((k' : Int) + 1 - 1) = (k' : Int) := by rw [Int.add_sub_cancel, IntKind.wrap_i64]; omega
      have hw3 : IntKind.i64.wrap (k' : Int) = (k' : Int) := by rw [IntKind.wrap_i64]; omega
      have hix1 := ixStrs g o kn kc k' (by omega)
      have hix2 : ∀ W : World, (Instr.indexAt 23 (.slice (some ⟨g, o, none⟩) kn kc) (.int .i64 ((k' : Int) + 1))).run Try.prog W = .ok (.pointer (some ⟨g, o + (k' + 1), none⟩)) W := fun W => ixStrs g o kn kc (k' + 1) hlt W
      have HA : Hid (Op.bytesLess ks[k'].toList ks[k' + 1].toList = true → risen ks (k' + 2)) := fun h => risen_step (unhide HRI) hkl h
      have HNA : Hid (Op.bytesLess ks[k'].toList ks[k' + 1].toList = false → r = false) := fun h => Bool.eq_false_iff.2 (fun hq => by
        have := ((unhide HR).1 hq) k' hkl hkl
        simp only [lt] at this
        rw [h] at this
        cases this)
      generalize ks[k'] = a at *
      generalize ks[k' + 1] = b at *
      generalize o + k' = j1 at *
      generalize o + (k' + 1) = j2 at *
      clear hkl HRI
      cases hab : Op.bytesLess a.toList b.toList
      · obtain rfl := unhide HNA hab
        clear HA HNA
        cases hba : Op.bytesLess b.toList a.toList
        · have hbe : (b.toList == a.toList) = true := beq_iff_eq.2 (bl_total _ _ hba hab)
          clear hab
          go_wp2_with fail
          go_quiet (fail)
          go_wp2
          go_ret
          exact ⟨rfl, belowDrewN (belowDrewN (Below.refl _ _) _) _⟩
        · clear hab
          go_wp2_with fail
          go_quiet (fail)
          go_wp2
          go_ret
          exact ⟨rfl, belowDrewN (belowDrewN (Below.refl _ _) _) _⟩
      · have HX := hide (unhide HA hab)
        have hba : Op.bytesLess b.toList a.toList = false := lt_asymm (a := a) (b := b) hab
        have hbe : (b.toList == a.toList) = false := beq_false_of_ne (fun h => by rw [h, bl_irrefl] at hab; cases hab)
        clear HA HNA hab
        go_wp2_with fail
        go_quiet (fail)
        go_wp2
        go_roundw
        case rel => exact ⟨k' + 1 + 1, by omega, by omega, by go_num, unhide HX, z + nq, rfl⟩
        case measure => simp [intOf]; omega
    · have hmi : ¬ (m : Int) < (kn : Int) := by omega
      obtain rfl : r = true := (unhide HR).2 (fun i hi _ => unhide HRI i hi (by have := unhide HKN; omega))
      go_wp2
      go_ret
      exact ⟨rfl, belowDrewN (Below.refl _ _) _⟩
end Go.Proofs.Ytppmpomfihalfaa
