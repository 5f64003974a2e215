/- Nodes: the small functions of the program, and Check. -/
import Derived.Test.YtppmpomfihalfaaNa
namespace Go.Proofs.Ytppmpomfihalfaa
open Go.RowKit

theorem nText (s : ByteArray) (hs : s.size ≤ 1000000000) (u : World) : Calls Try.prog 141 #[.string s] u fun e u' => e = .returned (.int .i64 (tsz s : Int)) ∧ u' = u := by
  by_cases h : s.size < 128
  · have hi : (s.size : Int) < 128 := by omega
    rw [show tsz s = 1 + s.size from if_pos h]
    go_enter Try.func141, Try.ntmps141
    go_wp2
    go_ret
    exact ⟨by simp, rfl⟩
  · have hi : ¬ (s.size : Int) < 128 := by omega
    rw [show tsz s = 2 + s.size from if_neg h]
    go_enter Try.func141, Try.ntmps141
    go_wp2
    go_ret
    exact ⟨by simp, rfl⟩
theorem empty_ba {k : ByteArray} : k = ⟨#[]⟩ ↔ k.size = 0 := by
  constructor
  · rintro rfl; rfl
  · intro h
    cases k with
    | mk a => congr 1; exact Array.eq_empty_of_size_eq_zero h
theorem empty_list {k : ByteArray} : k.toList = [] ↔ k.size = 0 := by
  rw [ByteArray.toList_eq, ← empty_ba]
  constructor
  · intro h; cases k with
    | mk a => congr 1; exact Array.ext' h
  · rintro rfl; rfl
open Classical in
theorem nKeyMay (k : ByteArray) (u : World) : Calls Try.prog 90 #[.string k] u fun e u' => e = .returned (.bool (decide (keyOk k))) ∧ u' = u := by
  by_cases h0 : k.size = 0
  · have e : decide (keyOk k) = false := decide_eq_false (fun h => by have := h.1; omega)
    rw [e]
    obtain rfl := empty_ba.2 h0
    go_enter Try.func90, Try.ntmps90
    go_wp2
    go_ret
    exact ⟨rfl, rfl⟩
  · have hne : (k.toList == []) = false := by simp [empty_list, h0]
    by_cases h1 : k.size ≤ 320
    · have e : decide (keyOk k) = true := decide_eq_true ⟨by omega, h1⟩
      rw [e]
      have hi : (k.size : Int) ≤ 320 := by omega
      go_enter Try.func90, Try.ntmps90
      go_wp2
      go_ret
      exact ⟨rfl, rfl⟩
    · have e : decide (keyOk k) = false := decide_eq_false (fun h => h1 h.2)
      rw [e]
      have hi : ¬ (k.size : Int) ≤ 320 := by omega
      go_enter Try.func90, Try.ntmps90
      go_wp2
      go_ret
      exact ⟨rfl, rfl⟩
theorem nItems (n : Nd) (a : Nv) (u : World) : Calls Try.prog 123 #[a.v n] u fun e u' => e = .returned (.int .i64 (n.items : Int)) ∧ Below u.heap.size u u' := by
  obtain ⟨ca, cc, ka, kc, ga, gc⟩ := a
  obtain ⟨lf, cs, ks, gs⟩ := n
  show Calls Try.prog 123 #[.agg #[.bool lf, .slice ca cs.length cc, .slice ka ks.length kc, .slice ga gs.length gc]] u _
  have HB := hide ((Below.refl u.heap.size u).alloc (Nat.le_refl _) (.cells #[.bool lf, .slice ca cs.length cc, .slice ka ks.length kc, .slice ga gs.length gc] 26))
  cases lf
  · rw [show Nd.items ⟨false, cs, ks, gs⟩ = ks.length from rfl]
    go_enter Try.func123, Try.ntmps123
    go_wp2
    go_ret
    exact ⟨rfl, unhide HB⟩
  · rw [show Nd.items ⟨true, cs, ks, gs⟩ = cs.length from rfl]
    go_enter Try.func123, Try.ntmps123
    go_wp2
    go_ret
    exact ⟨rfl, unhide HB⟩
end Go.Proofs.Ytppmpomfihalfaa
