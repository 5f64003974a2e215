/- The walks of SegmentPlaces and SegmentNames. -/
import Derived.Test.YtddfmdfpoakofaaSgc
namespace Go.Proofs.Ytddfmdfpoakofaa.S
open Go.RowKit Go.Lib
set_option maxHeartbeats 1000000 in
theorem places14_walk (k : ByteArray) (n : Int) (u : World) : Calls Try.prog 3 #[.string k, .int .i64 n] u fun e u' => e = .returned (.bool true) ∧ Below u.heap.size u u' := by
  have H1 := hide (qPrefix n)
  have H2 := hide (sPrefix n)
  have H3 := hide (sOf k)
  have H4 := hide (qOf k)
  generalize (preV n).1 = p at *
  generalize (preV n).2 = e at *
  generalize ofI k = o at *
  obtain ⟨N, hN⟩ : ∃ N, N = u.heap.size := ⟨_, rfl⟩
  have HN := hide hN
  rw [← hN]
  have HUP : Hid (∀ W W' : World, Below N u W → Below W.heap.size W W' → Below N u W') := fun W W' h1 h2 => h1.trans (h2.mono (by rw [hN]; exact h1.size))
  clear hN
  go_enter Try.func3, Try.ntmps3
  go_wp2_with (first
    | (go_at_call 13; refine (unhide H1 u).mono ?_; rintro e W1 ⟨rfl, hb⟩; have B1 : Hid (Below N u W1) := (by rw [unhide HN]; exact hb); clear hb)
    | (go_at_call 14; refine (unhide H2 _).mono ?_; rintro e W2 ⟨rfl, hb⟩; have B2 := hide (unhide HUP _ _ (unhide B1) hb); clear hb)
    | (go_at_call 15; refine (unhide H3 _).mono ?_; rintro e W3 ⟨rfl, hb⟩; have B3 := hide (unhide HUP _ _ (unhide B2) hb); clear hb)
    | (go_at_call 16; refine (unhide H4 _).mono ?_; rintro e W4 ⟨rfl, hb⟩; have B4 := hide (unhide HUP _ _ (unhide B3) hb); clear hb)
    | fail)
  go_ret
  exact ⟨rfl, unhide B4⟩
def kA : ByteArray := ⟨#[97]⟩
def kB : ByteArray := ⟨#[98]⟩
theorem ofI_a : ofI ⟨#[97]⟩ = 2005 := by decide +kernel
theorem ofI_b : ofI ⟨#[98]⟩ = 2637 := by decide +kernel
theorem ofI_0 : ofI ⟨#[]⟩ = -1 := by decide +kernel
theorem pre_2005 : preV 2005 = (⟨#[7, 213]⟩, 0) := by decide +kernel
set_option maxHeartbeats 1000000 in
theorem names14_walk (u : World) : Calls Try.prog 9 #[] u fun e u' => e = .returned (.bool true) ∧ Below u.heap.size u u' := by
  have H2 := hide (sPrefix 2005)
  rw [pre_2005] at H2
  have H3 := hide (sOf ⟨#[97]⟩)
  rw [ofI_a] at H3
  have H4 := hide (sOf ⟨#[98]⟩)
  rw [ofI_b] at H4
  have H5 := hide (sOf ⟨#[]⟩)
  rw [ofI_0] at H5
  obtain ⟨N, hN⟩ : ∃ N, N = u.heap.size := ⟨_, rfl⟩
  have HN := hide hN
  rw [← hN]
  have HUP : Hid (∀ W W' : World, Below N u W → Below W.heap.size W W' → Below N u W') := fun W W' h1 h2 => h1.trans (h2.mono (by rw [hN]; exact h1.size))
  clear hN
  go_enter Try.func9, Try.ntmps9
  go_wp2_with (first
    | (go_at_call 14; refine (unhide H2 u).mono ?_; rintro e W2 ⟨rfl, hb⟩; have B2 : Hid (Below N u W2) := (by rw [unhide HN]; exact hb); clear hb)
    | (go_at_call_of 15 (Value.string ⟨#[97]⟩); refine (unhide H3 W2).mono ?_; rintro e W3 ⟨rfl, hb⟩; have B3 := hide (unhide HUP _ _ (unhide B2) hb); clear hb)
    | (go_at_call_of 15 (Value.string ⟨#[98]⟩); refine (unhide H4 W3).mono ?_; rintro e W4 ⟨rfl, hb⟩; have B4 := hide (unhide HUP _ _ (unhide B3) hb); clear hb)
    | (go_at_call 15; refine (unhide H5 W4).mono ?_; rintro e W5 ⟨rfl, hb⟩; have B5 := hide (unhide HUP _ _ (unhide B4) hb); clear hb)
    | fail)
  go_ret
  exact ⟨rfl, unhide B5⟩
end Go.Proofs.Ytddfmdfpoakofaa.S
