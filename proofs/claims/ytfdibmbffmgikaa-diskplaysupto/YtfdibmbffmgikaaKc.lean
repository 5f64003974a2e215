/- The disk: its small functions. -/
import Derived.Test.YtfdibmbffmgikaaKb
namespace Go.Proofs.Ytfdibmbffmgikaa
open Go.RowKit Go.Lib
section
variable {B : Nat} {u : World} {D L T : Nat} {v : Value} {f : List Nat} {d : Dk} {F : List Nat}

theorem kDark (h : DskX B u D L T v f d) : Calls Try.prog 40 #[.pointer (some ⟨D, 0, none⟩)] u fun e u' => e = .returned (.int .i64 (if d.off then 40 else 0)) ∧ u' = u := by
  have h3 := h.c3
  clear h
  cases hd : d.off <;> rw [hd] at h3
  · rw [if_neg (by decide)]
    go_enter Try.func40, Try.ntmps40
    go_wp2
    go_ret
    exact ⟨rfl, rfl⟩
  · rw [if_pos rfl]
    go_enter Try.func40, Try.ntmps40
    go_wp2
    go_ret
    exact ⟨rfl, rfl⟩
theorem kLit (h : DskX B u D L T v f d) : Calls Try.prog 17 #[.pointer (some ⟨D, 0, none⟩)] u fun e u' => e = .returned (.bool (!d.off)) ∧ u' = u := by
  have hk := kDark h
  clear h
  cases hd : d.off <;> rw [hd] at hk
  · rw [if_neg (by decide)] at hk
    go_enter Try.func17, Try.ntmps17
    go_wp2_with fail
    refine hk.mono ?_
    rintro e w1 ⟨rfl, hw⟩
    obtain rfl := hw.symm
    clear hw
    go_wp2
    go_ret
    exact ⟨rfl, rfl⟩
  · rw [if_pos rfl] at hk
    go_enter Try.func17, Try.ntmps17
    go_wp2_with fail
    refine hk.mono ?_
    rintro e w1 ⟨rfl, hw⟩
    obtain rfl := hw.symm
    clear hw
    go_wp2
    go_ret
    exact ⟨rfl, rfl⟩
theorem kPages (h : DskX B u D L T v f d) : Calls Try.prog 15 #[.pointer (some ⟨D, 0, none⟩)] u fun e u' => e = .returned (.int .i64 (d.lies.length : Int)) ∧ u' = u := by
  have h0 := h.c0
  clear h
  go_enter Try.func15, Try.ntmps15
  go_wp2
  go_ret
  exact ⟨rfl, rfl⟩
theorem kPending (h : DskX B u D L T v f d) : Calls Try.prog 16 #[.pointer (some ⟨D, 0, none⟩)] u fun e u' => e = .returned (.int .i64 (d.pend.length : Int)) ∧ u' = u := by
  have h1 := h.c1
  obtain ⟨ao, c, rfl⟩ := ownsRow_len h.pend
  clear h
  go_enter Try.func16, Try.ntmps16
  go_wp2
  go_ret
  exact ⟨rfl, rfl⟩
/-- why a page can be neither read nor written -/
def Dk.refused (d : Dk) (x : Int) : Int := if d.off then 40 else if 0 ≤ x ∧ x < (d.lies.length : Int) then 0 else 1
theorem kRefused (h : DskX B u D L T v f d) (x : Int) : Calls Try.prog 37 #[.pointer (some ⟨D, 0, none⟩), .int .i64 x] u fun e u' => e = .returned (.int .i64 (d.refused x)) ∧ u' = u := by
  have hk := kDark h
  have h0 := h.c0
  clear h
  unfold Dk.refused
  cases hd : d.off <;> rw [hd] at hk
  · rw [if_neg (by decide)] at hk
    rw [if_neg (by decide)]
    generalize d.lies.length = n at *
    by_cases hx0 : 0 ≤ x
    · by_cases hx1 : x < (n : Int)
      · rw [if_pos ⟨hx0, hx1⟩]
        have hy0 : ¬ x < 0 := by omega
        have hy1 : ¬ (n : Int) ≤ x := by omega
        go_enter Try.func37, Try.ntmps37
        go_wp2_with fail
        refine hk.mono ?_
        rintro e w1 ⟨rfl, hw⟩
        obtain rfl := hw.symm
        clear hw hk
        go_wp2
        go_ret
        exact ⟨rfl, rfl⟩
      · rw [if_neg (fun h => hx1 h.2)]
        have hy0 : ¬ x < 0 := by omega
        have hy1 : (n : Int) ≤ x := by omega
        go_enter Try.func37, Try.ntmps37
        go_wp2_with fail
        refine hk.mono ?_
        rintro e w1 ⟨rfl, hw⟩
        obtain rfl := hw.symm
        clear hw hk
        go_wp2
        go_ret
        exact ⟨rfl, rfl⟩
    · rw [if_neg (fun h => hx0 h.1)]
      have hy0 : x < 0 := by omega
      go_enter Try.func37, Try.ntmps37
      go_wp2_with fail
      refine hk.mono ?_
      rintro e w1 ⟨rfl, hw⟩
      obtain rfl := hw.symm
      clear hw hk
      go_wp2
      go_ret
      exact ⟨rfl, rfl⟩
  · rw [if_pos rfl] at hk
    rw [if_pos rfl]
    go_enter Try.func37, Try.ntmps37
    go_wp2_with fail
    refine hk.mono ?_
    rintro e w1 ⟨rfl, hw⟩
    obtain rfl := hw.symm
    clear hw hk
    go_wp2
    go_ret
    exact ⟨rfl, rfl⟩
/-- the fuse is asked -/
def Dk.asked (d : Dk) : Dk := if d.fuse = 0 then ⟨d.lies, d.pend, true, d.fuse⟩ else if 0 < d.fuse then ⟨d.lies, d.pend, d.off, d.fuse - 1⟩ else d
theorem kAsk (h : DskX B u D L T v f d) : Calls Try.prog 39 #[.pointer (some ⟨D, 0, none⟩)] u fun e u' => e = .returned (.int .i64 (if d.fuse = 0 then 40 else 0)) ∧ DskX B u' D L T v f d.asked ∧ UpS u u' [D] := by
  have h4 := h.c4
  have h3 := h.c3
  have hz3 := h.fz 3
  have hz4 := h.fz 4
  have hf0 := h.ok.f0
  have hf1 := h.ok.f1
  have HD := hide h
  clear h
  unfold Dk.asked
  by_cases hz : d.fuse = 0
  · rw [if_pos hz, if_pos hz]
    rw [hz] at h4
    go_enter Try.func39, Try.ntmps39
    go_wp2
    go_ret
    exact ⟨rfl, (unhide HD).setOff true, (UpS.refl _ _).setCell (.inl (by simp)) _⟩
  · rw [if_neg hz, if_neg hz]
    by_cases hp : 0 < d.fuse
    · rw [if_pos hp]
      have hw : wrap64 (d.fuse - 1) = d.fuse - 1 := by go_unwrap
      go_enter Try.func39, Try.ntmps39
      go_wp2
      go_ret
      refine ⟨rfl, ?_, (UpS.refl _ _).setCell (.inl (by simp)) _⟩
      exact (unhide HD).setFuse _ (by omega) (by omega)
    · rw [if_neg hp]
      go_enter Try.func39, Try.ntmps39
      go_wp2
      go_ret
      exact ⟨rfl, unhide HD, UpS.refl _ _⟩
def Dk.fused (d : Dk) (x : Int) : Dk := if d.off then d else ⟨d.lies, d.pend, d.off, max x (-1)⟩
theorem kFuse (h : DskX B u D L T v f d) (x : Int) (hx : x ≤ 9223372036854775807) : Calls Try.prog 10 #[.pointer (some ⟨D, 0, none⟩), .int .i64 x] u fun e u' => e = .returned (.tuple #[]) ∧ DskX B u' D L T v f (d.fused x) ∧ UpS u u' [D] := by
  have h4 := h.c4
  have h3 := h.c3
  have hz4 := h.fz 4
  have HD := hide h
  clear h
  unfold Dk.fused
  cases hd : d.off <;> rw [hd] at h3
  · rw [if_neg (by decide)]
    by_cases hp : -1 ≤ x
    · rw [Int.max_eq_left hp]
      go_enter Try.func10, Try.ntmps10
      go_wp2
      go_returns
      have hs := (unhide HD).setFuse x (by omega) (by omega)
      rw [hd] at hs
      exact ⟨rfl, hs, (UpS.refl _ _).setCell (.inl (by simp)) _⟩
    · rw [Int.max_eq_right (by omega)]
      go_enter Try.func10, Try.ntmps10
      go_wp2
      go_returns
      have hs := (unhide HD).setFuse (-1) (by omega) (by omega)
      rw [hd] at hs
      exact ⟨rfl, hs, (UpS.refl _ _).setCell (.inl (by simp)) _⟩
  · rw [if_pos rfl]
    go_enter Try.func10, Try.ntmps10
    go_wp2
    go_returns
    exact ⟨rfl, unhide HD, UpS.refl _ _⟩
end
end Go.Proofs.Ytfdibmbffmgikaa
