/- The document's set: sets of no number, refusals, and no set. -/
import Derived.Test.YtloealcaagfehaaDoorRs
namespace Go.Proofs.YtloealcaagfehaaDoor
open Go.RowKit

section
variable {p p' : Nat} {w : World} {ao bo : Option Addr} {ca cb : Nat}
theorem yFill (hc : w.cell? ⟨p, 0, none⟩ = some (.slice ao 0 ca)) : Calls Tryd.prog 46 #[.pointer (some ⟨p, 0, none⟩), .int .i64 0, .int .i64 0] w fun e w' => e = .returned (.int .i64 0) ∧ w' = w := by
  go_enter Tryd.func46, Tryd.ntmps46
  go_wp2
  go_loopw [7] (fun i wr => i = .int .i64 0 ∧ wr = w) (fun _ _ => 0)
  case atStart => exact ⟨rfl, rfl⟩
  case round =>
    obtain ⟨rfl, hu⟩ := hrel
    obtain rfl := hu.symm
    go_wp2
    go_ret
    exact ⟨rfl, rfl⟩
theorem rFillBad {n : Nat} (hc : w.cell? ⟨p, 0, none⟩ = some (.slice ao n ca)) (f b : Int) (h : f < 0 ∨ b < f ∨ (n : Int) < b) : Calls Tryd.prog 46 #[.pointer (some ⟨p, 0, none⟩), .int .i64 f, .int .i64 b] w fun e w' => e = .returned (.int .i64 1) ∧ w' = w := by
  by_cases h1 : f < 0
  · clear h
    go_enter Tryd.func46, Tryd.ntmps46
    go_wp2
    go_ret
    exact ⟨rfl, rfl⟩
  · by_cases h2 : b < f
    · clear h
      go_enter Tryd.func46, Tryd.ntmps46
      go_wp2
      go_ret
      exact ⟨rfl, rfl⟩
    · have h3 : (n : Int) < b := by omega
      clear h
      go_enter Tryd.func46, Tryd.ntmps46
      go_wp2
      go_ret
      exact ⟨rfl, rfl⟩
theorem rFillNil (f b : Int) (w : World) : Calls Tryd.prog 46 #[.pointer none, .int .i64 f, .int .i64 b] w fun e w' => e = .returned (.int .i64 2) ∧ w' = w := by
  go_enter Tryd.func46, Tryd.ntmps46
  go_wp2
  go_ret
  exact ⟨rfl, rfl⟩
theorem zCount (hc : w.cell? ⟨p, 0, none⟩ = some (.slice none 0 0)) : Calls Tryd.prog 63 #[.pointer (some ⟨p, 0, none⟩)] w fun e w' => e = .returned (.int .i64 0) ∧ w' = w := by
  have HE := hide (zEach hc)
  clear hc
  go_enter Tryd.func63, Tryd.ntmps63
  go_wp2_with (go_at_call 15; refine (unhide HE).mono ?_; rintro e w1 ⟨rfl, hw⟩; obtain rfl := hw.symm; clear hw)
  go_ret
  exact ⟨rfl, rfl⟩
theorem rCountNil (w : World) : Calls Tryd.prog 63 #[.pointer none] w fun e w' => e = .returned (.int .i64 0) ∧ w' = w := by
  have HE := hide (rEachNil w)
  go_enter Tryd.func63, Tryd.ntmps63
  go_wp2_with (go_at_call 15; refine (unhide HE).mono ?_; rintro e w1 ⟨rfl, hw⟩; obtain rfl := hw.symm; clear hw)
  go_ret
  exact ⟨rfl, rfl⟩
theorem zNext (x : Int) (hE : Calls Tryd.prog 15 #[.pointer ao] w fun e w' => e = .returned (.slice none 0 0) ∧ w' = w) : Calls Tryd.prog 64 #[.pointer ao, .int .i64 x] w fun e w' => e = .returned (.tuple #[.int .i64 0, .bool false]) ∧ w' = w := by
  have HE := hide hE
  clear hE
  go_enter Tryd.func64, Tryd.ntmps64
  go_wp2_with (go_at_call 15; refine (unhide HE).mono ?_; rintro e w1 ⟨rfl, hw⟩; obtain rfl := hw.symm; clear hw)
  go_loopw [7] (fun i wr => i = .int .i64 0 ∧ wr = w) (fun _ _ => 0)
  case atStart => exact ⟨rfl, rfl⟩
  case round =>
    obtain ⟨rfl, hu⟩ := hrel
    obtain rfl := hu.symm
    go_wp2
    go_ret2
    exact ⟨rfl, rfl⟩
theorem rClearNil (w : World) : Calls Tryd.prog 50 #[.pointer none] w fun e w' => e = .returned (.tuple #[]) ∧ w' = w := by
  go_enter Tryd.func50, Tryd.ntmps50
  go_wp2
  go_loopw [2] (fun i wr => i = .int .i64 0 ∧ wr = w) (fun _ _ => 0)
  case atStart => exact ⟨rfl, rfl⟩
  case round =>
    obtain ⟨rfl, hu⟩ := hrel
    obtain rfl := hu.symm
    go_wp2_with fail
    refine (rLenNil _).mono ?_
    rintro e w1 ⟨rfl, hw⟩
    obtain rfl := hw.symm
    clear hw
    go_wp2
    go_returns
    exact ⟨rfl, rfl⟩
theorem rCopyNil (w : World) : Calls Tryd.prog 43 #[.pointer none] w fun e w' => e = .returned (.pointer none) ∧ w' = w := by
  go_enter Tryd.func43, Tryd.ntmps43
  go_wp2
  go_ret
  exact ⟨rfl, rfl⟩
theorem rSameBad {n n' : Nat} (hne : n ≠ n') (hc : w.cell? ⟨p, 0, none⟩ = some (.slice ao n ca)) (hc' : w.cell? ⟨p', 0, none⟩ = some (.slice bo n' cb)) : Calls Tryd.prog 65 #[.pointer (some ⟨p, 0, none⟩), .pointer (some ⟨p', 0, none⟩)] w fun e w' => e = .returned (.bool false) ∧ ∃ k, w' = w.drewN k := by
  have h1 : ¬ (n : Int) = (n' : Int) := by omega
  clear hne
  go_enter Tryd.func65, Tryd.ntmps65
  go_wp2
  go_quiet (fail)
  go_wp2
  go_ret
  exact ⟨rfl, _, rfl⟩
theorem rSameNilL (o : Option Addr) (w : World) : Calls Tryd.prog 65 #[.pointer none, .pointer o] w fun e w' => e = .returned (.bool false) ∧ ∃ k, w' = w.drewN k := by
  go_enter Tryd.func65, Tryd.ntmps65
  go_wp2
  go_quiet (fail)
  go_wp2
  go_ret
  exact ⟨rfl, _, rfl⟩
theorem rSameNilR (p : Nat) (w : World) : Calls Tryd.prog 65 #[.pointer (some ⟨p, 0, none⟩), .pointer none] w fun e w' => e = .returned (.bool false) ∧ ∃ k, w' = w.drewN k := by
  go_enter Tryd.func65, Tryd.ntmps65
  go_wp2
  go_quiet (fail)
  go_wp2
  go_ret
  exact ⟨rfl, _, rfl⟩
theorem ySame (hc : w.cell? ⟨p, 0, none⟩ = some (.slice ao 0 ca)) (hc' : w.cell? ⟨p', 0, none⟩ = some (.slice bo 0 cb)) : Calls Tryd.prog 65 #[.pointer (some ⟨p, 0, none⟩), .pointer (some ⟨p', 0, none⟩)] w fun e w' => e = .returned (.bool true) ∧ ∃ k, w' = w.drewN k := by
  go_enter Tryd.func65, Tryd.ntmps65
  go_wp2
  go_quiet (fail)
  go_wp2
  go_loopw [5] (fun i wr => i = .int .i64 0 ∧ Hid (∃ k, wr = w.drewN k)) (fun _ _ => 0)
  case atStart => exact ⟨rfl, hide ⟨_, rfl⟩⟩
  case round =>
    obtain ⟨rfl, HC⟩ := hrel
    have hc2 : wr.cell? ⟨p, 0, none⟩ = some (.slice ao 0 ca) := by
      obtain ⟨c, e⟩ := unhide HC
      rw [e]; exact hc
    go_wp2
    go_ret
    exact ⟨rfl, unhide HC⟩
theorem rWithBad {n n' : Nat} (hne : n ≠ n') (hc : w.cell? ⟨p, 0, none⟩ = some (.slice ao n ca)) (hc' : w.cell? ⟨p', 0, none⟩ = some (.slice bo n' cb)) (b1 b2 b3 : Bool) : Calls Tryd.prog 67 #[.pointer (some ⟨p, 0, none⟩), .pointer (some ⟨p', 0, none⟩), .bool b1, .bool b2, .bool b3] w fun e w' => e = .returned (.int .i64 1) ∧ ∃ k, w' = w.drewN k := by
  have h1 : ¬ (n : Int) = (n' : Int) := by omega
  clear hne
  go_enter Tryd.func67, Tryd.ntmps67
  go_wp2
  go_quiet (fail)
  go_wp2
  go_ret
  exact ⟨rfl, _, rfl⟩
theorem rWithNilL (o : Option Addr) (b1 b2 b3 : Bool) (w : World) : Calls Tryd.prog 67 #[.pointer none, .pointer o, .bool b1, .bool b2, .bool b3] w fun e w' => e = .returned (.int .i64 2) ∧ w' = w := by
  go_enter Tryd.func67, Tryd.ntmps67
  go_wp2
  go_ret
  exact ⟨rfl, rfl⟩
theorem rWithNilR (p : Nat) (b1 b2 b3 : Bool) (w : World) : Calls Tryd.prog 67 #[.pointer (some ⟨p, 0, none⟩), .pointer none, .bool b1, .bool b2, .bool b3] w fun e w' => e = .returned (.int .i64 2) ∧ w' = w := by
  go_enter Tryd.func67, Tryd.ntmps67
  go_wp2
  go_ret
  exact ⟨rfl, rfl⟩
theorem yWith (hd : w.heap[p]? = some (.cells #[.slice ao 0 ca] 72 (0, 0))) (hc' : w.cell? ⟨p', 0, none⟩ = some (.slice bo 0 cb)) (b1 b2 b3 : Bool) : Calls Tryd.prog 67 #[.pointer (some ⟨p, 0, none⟩), .pointer (some ⟨p', 0, none⟩), .bool b1, .bool b2, .bool b3] w fun e w' => e = .returned (.int .i64 0) ∧ U1 w w' p ∧ Rn w' p p 0 0 := by
  have hc : w.cell? ⟨p, 0, none⟩ = some (.slice ao 0 ca) := by simp [World.cell?, hd]
  have HD := hide hd
  clear hd
  go_enter Tryd.func67, Tryd.ntmps67
  go_wp2
  go_quiet (fail)
  go_wp2
  go_loopw [11, 12] (fun v i wr => v = .slice none 0 0 ∧ i = .int .i64 0 ∧ Hid (∃ k, wr = w.drewN k)) (fun _ _ _ => 0)
  case atStart => exact ⟨rfl, rfl, hide ⟨_, rfl⟩⟩
  case round =>
    obtain ⟨rfl, rfl, HC⟩ := hrel
    have hdw : wr.heap[p]? = some (.cells #[.slice ao 0 ca] 72 (0, 0)) := by
      obtain ⟨c, e⟩ := unhide HC
      rw [e]; exact unhide HD
    have hc2 : wr.cell? ⟨p, 0, none⟩ = some (.slice ao 0 ca) := by simp [World.cell?, hdw]
    have hfz : wr.frozen? ⟨p, 0, none⟩ = false := by simp [World.frozen?, hdw]
    have HU : Hid (U1 w (wr.setCell ⟨p, 0, none⟩ (.slice none 0 0)) p) := by
      obtain ⟨c, e⟩ := unhide HC
      rw [e]; exact ((U1.refl w p).drewN c).set 0 _
    have HN : Hid (Rn (wr.setCell ⟨p, 0, none⟩ (.slice none 0 0)) p p 0 0) := .inr ⟨rfl, rfl, by rw [heapCell_same hdw]; rfl⟩
    clear hdw
    go_wp2
    go_ret
    exact ⟨rfl, unhide HU, unhide HN⟩
theorem zCopy (hd : w.heap[p]? = some (.cells #[.slice none 0 0] 72 (0, 0))) : Calls Tryd.prog 43 #[.pointer (some ⟨p, 0, none⟩)] w fun e w' => ∃ p2, e = .returned (.pointer (some ⟨p2, 0, none⟩)) ∧ w.heap.size ≤ p2 ∧ Rn w' p2 p2 0 0 ∧ Below w.heap.size w w' := by
  have hap : ∀ u : World, (Builtin.append_ #[70, 70] 70 #[.slice none 0 0, .slice none 0 0]).run Tryd.prog u = .ok (.slice none 0 0) u := fun u => by kernel_rfl
  have hpl : p < w.heap.size := (Array.getElem?_eq_some_iff.1 hd).1
  have hcp : (w.alloc (.cells #[.slice none 0 0] 72)).cell? ⟨p, 0, none⟩ = some (.slice none 0 0) := by
    have h := (Below.refl w.heap.size w).alloc (Nat.le_refl _) (.cells #[.slice none 0 0] 72)
    rw [h.cell (p := ⟨p, 0, none⟩) hpl]
    simp [World.cell?, hd]
  clear hd
  go_enter Tryd.func43, Tryd.ntmps43
  go_wp2
  go_region
  go_wp2
  go_ret
  have hb := (Below.refl w.heap.size w).alloc (Nat.le_refl _) (.cells #[.slice none 0 0] 72)
  exact ⟨w.heap.size, rfl, Nat.le_refl _, .inr ⟨rfl, rfl, heap_alloc_new w (.cells #[.slice none 0 0] 72)⟩, belowDrew hb⟩
end
end Go.Proofs.YtloealcaagfehaaDoor
