/- The journal's small functions. -/
import Derived.Test.YtfdfbjijomepgaaDoorPl
import Derived.Deep.QuietTactic
import Derived.Deep.MidRow
namespace Go.Proofs.YtfdfbjijomepgaaDoor
open Go.RowKit

/-- pages in memory -/
def Pgs (u : World) (ao : Option Addr) (l : List Pg) : Prop := 0 < l.length → ∃ g o, ao = some ⟨g, o, none⟩ ∧ ∀ (j : Nat) (hj : j < l.length) (k : Nat), k < 4 → u.cell? ⟨g, o + j * 4 + k, none⟩ = (l[j].cs)[k]?
/-- how many pages a batch may have -/
def room (c : Int) : Int := if c ≤ 1 then 0 else if c ≤ 199 then c - 1 else 198
theorem jRoom (c : Int) (hc : c ≤ 9223372036854775807) (u : World) : Calls Tryd.prog 17 #[.int .i64 c] u fun e u' => e = .returned (.int .i64 (room c)) ∧ u' = u := by
  obtain ⟨r, hr⟩ : ∃ r, r = room c := ⟨_, rfl⟩
  rw [← hr]
  have HR := hide hr
  clear hr
  by_cases h1 : c ≤ 1
  · obtain rfl : r = 0 := by rw [unhide HR, room, if_pos h1]
    clear HR
    go_enter Tryd.func17, Tryd.ntmps17
    go_wp2
    all_goals go_ret
    · exact ⟨rfl, rfl⟩
    · obtain rfl : c = 1 := by omega
      exact ⟨rfl, rfl⟩
  · by_cases h2 : c ≤ 199
    · obtain rfl : r = c - 1 := by rw [unhide HR, room, if_neg h1, if_pos h2]
      clear HR
      have h3 : ¬ c < 1 := by omega
      have h4 : c - 1 ≤ 198 := by omega
      go_enter Tryd.func17, Tryd.ntmps17
      go_wp2
      go_ret
      exact ⟨rfl, rfl⟩
    · obtain rfl : r = 198 := by rw [unhide HR, room, if_neg h1, if_neg h2]
      clear HR
      have h3 : ¬ c < 1 := by omega
      have h4 : ¬ c - 1 ≤ 198 := by omega
      have hw : wrap64 (c - 1) = c - 1 := by go_unwrap
      go_enter Tryd.func17, Tryd.ntmps17
      go_wp2
      go_ret
      exact ⟨rfl, rfl⟩
theorem jSlotAt (f i : Nat) (h : f + i ≤ 1000000000) (u : World) : Calls Tryd.prog 34 #[.int .i64 (f : Int), .int .i64 (i : Int)] u fun e u' => e = .returned (.int .i64 ((f + 1 + i : Nat) : Int)) ∧ u' = u := by
  have h1 : wrap64 ((f : Int) + 1) = (f : Int) + 1 := by go_unwrap
  have h2 : wrap64 ((f : Int) + 1 + (i : Int)) = (f : Int) + 1 + (i : Int) := by go_unwrap
  go_enter Tryd.func34, Tryd.ntmps34
  go_wp2
  go_ret
  exact ⟨by simp, rfl⟩
theorem sizeJ {P : Program} {t : TypeId} {n : Nat} (h : (P.info? t).map (·.size) = some n) (W : World) : (sizeOf t).run P W = .ok n W := by
  cases hq : P.info? t with
  | none => simp [hq] at h
  | some i => simp [sizeOf, typeInfo, hq]; simpa [hq] using h
theorem ixPages (g o n c i : Nat) (hi : i < n) (W : World) : (Instr.indexAt 25 (.slice (some ⟨g, o, none⟩) n c) (.int .i64 (i : Int))).run Tryd.prog W = .ok (.pointer (some ⟨g, o + i * 4, none⟩)) W := by
  have he : Tryd.prog.elem 25 = 70 := by kernel_rfl
  rw [run_indexAt_slice W 25 _ _ _ _ _ (by rw [he]; kernel_rfl), if_pos ⟨by omega, by omega⟩, he, sizeJ (n := 4) (by kernel_rfl)]
  simp only [Result.andThen_ok, Int.toNat_natCast, Addr.add_mid]
/-- the numbers rise, up to k -/
def risen (l : List Pg) (k : Nat) : Prop := ∀ i (h : i + 1 < l.length), i + 1 < k → l[i].num < l[i + 1].num
def rises (l : List Pg) : Prop := risen l l.length
open Classical in
set_option maxRecDepth 100000 in
theorem jRising (l : List Pg) (ao : Option Addr) (cap : Nat) (u : World) (h : Pgs u ao l) (hn : l.length ≤ 1000000000) : Calls Tryd.prog 52 #[.slice ao l.length cap] u fun e u' => e = .returned (.bool (decide (rises l))) ∧ ∃ n, u' = u.drewN n := by
  obtain ⟨n, hnn⟩ : ∃ n, n = l.length := ⟨_, rfl⟩
  have HN := hide hnn
  have HP := hide h
  have hni : (n : Int) ≤ 1000000000 := by omega
  obtain ⟨r, hr⟩ : ∃ r, r = decide (rises l) := ⟨_, rfl⟩
  have HR := hide hr
  rw [← hnn, ← hr]
  clear hnn h hn hr
  go_enter Tryd.func52, Tryd.ntmps52
  go_wp2
  go_loopw [3] (fun i wr => ∃ k : Nat, 1 ≤ k ∧ (k ≤ n ∨ k = 1) ∧ i = .int .i64 k ∧ Hid (risen l k ∧ ∃ z, wr = u.drewN z)) (fun i _ => n + 1 - (intOf i).toNat)
  case atStart => exact ⟨1, Nat.le_refl _, .inr rfl, rfl, fun i _ h => by omega, 0, rfl⟩
  case round =>
    obtain ⟨k, hk1, hk, rfl, HI⟩ := hrel
    obtain ⟨hri, z, rfl⟩ := unhide HI
    have HRI := hide hri
    clear hri HI
    by_cases hlt : k < n
    · have hki : (k : Int) < (n : Int) := by omega
      have hkl : k < l.length := by rw [← unhide HN]; exact hlt
      obtain ⟨k', rfl⟩ : ∃ k', k = k' + 1 := ⟨k - 1, by omega⟩
      obtain ⟨g, o, hao, hc⟩ := unhide HP (by omega)
      subst hao
      have c1 : u.cell? ⟨g, o + k' * 4 + 1, none⟩ = some (.int .u32 (l[k'].num : Int)) := hc k' (by omega) 1 (by decide)
      have c2 : u.cell? ⟨g, o + (k' + 1) * 4 + 1, none⟩ = some (.int .u32 (l[k' + 1].num : Int)) := hc (k' + 1) hkl 1 (by decide)
      have hw : wrap64 ((k' : Int) + 1 - 1) = (k' : Int) := by rw [Int.add_sub_cancel]; go_unwrap
      have hix1 := ixPages g o n cap k' (by omega)
      have hix2 : ∀ W : World, (Instr.indexAt 25 (.slice (some ⟨g, o, none⟩) n cap) (.int .i64 ((k' : Int) + 1))).run Tryd.prog W = .ok (.pointer (some ⟨g, o + (k' + 1) * 4, none⟩)) W := fun W => ixPages g o n cap (k' + 1) hlt W
      have HA : Hid (l[k'].num < l[k' + 1].num → risen l (k' + 2)) := fun h i hi hk => by
        rcases Nat.lt_or_ge (i + 1) (k' + 1) with h1 | h1
        · exact unhide HRI i hi h1
        · obtain rfl : i = k' := by omega
          exact h
      have HNA : Hid (¬ l[k'].num < l[k' + 1].num → r = false) := fun h => by
        show r = false
        rw [unhide HR]
        exact decide_eq_false (fun hr => h (hr k' hkl (by omega)))
      generalize l[k'].num = a at *
      generalize l[k' + 1].num = b at *
      generalize o + k' * 4 = j1 at *
      generalize o + (k' + 1) * 4 = j2 at *
      clear hc hkl HRI
      by_cases hab : a < b
      · have hab1 : ¬ (b : Int) ≤ (a : Int) := by omega
        have HX := hide (unhide HA hab)
        clear HA HNA
        go_wp2_with fail
        go_quiet (fail)
        go_wp2
        go_roundw
        case rel => exact ⟨k' + 1 + 1, by omega, by omega, by go_num, unhide HX, z + nq, rfl⟩
        case measure => simp [intOf]; omega
      · have hab1 : (b : Int) ≤ (a : Int) := by omega
        obtain rfl := unhide HNA hab
        clear HA HNA
        go_wp2_with fail
        go_quiet (fail)
        go_wp2
        go_ret
        exact ⟨rfl, z + nq, by rw [World.drewN_drewN]⟩
    · obtain rfl : r = true := by
        rw [unhide HR]
        exact decide_eq_true (fun i hi hk => unhide HRI i hi (by have := unhide HN; omega))
      have hki : (n : Int) ≤ (k : Int) := by omega
      go_wp2
      go_ret
      exact ⟨rfl, z, rfl⟩
end Go.Proofs.YtfdfbjijomepgaaDoor
