/- The walk of WireJoins. -/
import Derived.Test.YtpjepndeppckdaaDoorWorks
namespace Go.Proofs.YtpjepndeppckdaaDoor
open Go.RowKit Go.Lib Crc

theorem nn (x : Nat) (h : x < 4294967296) : 4294967295 - x < 4294967296 ∧ 4294967295 - (4294967295 - x) = x := by omega
theorem not_xor (x : Nat) (h : x < 4294967296) : 4294967295 - x = 4294967295 ^^^ x := by
  have h1 := not32 x h
  have h2 := x32 4294967295 x (by decide) h
  have h3 : IntKind.u32.max = ((4294967295 : Nat) : Int) := rfl
  rw [h3, h2] at h1
  omega
theorem join_eq (s t : List UInt8) : joinS (4294967295 - fold s 4294967295) (4294967295 - fold t 4294967295) t.length = 4294967295 - fold (s ++ t) 4294967295 := by
  have hs := fold_lt s 4294967295 (by decide)
  have ht := fold_lt t 4294967295 (by decide)
  have hst := fold_lt (s ++ t) 4294967295 (by decide)
  have hl := fold_lin t (fold s 4294967295) 4294967295
  unfold joinS
  rw [Int.toNat_natCast, pn_byte, not_xor _ hs, not_xor _ ht, not_xor _ hst, Nat.xor_comm 4294967295 (fold s _), ← hl, fold_append]
  rw [Nat.xor_assoc, Nat.xor_comm 4294967295 (fold t 4294967295), ← Nat.xor_assoc (fold t 4294967295), Nat.xor_self, Nat.zero_xor, Nat.xor_comm]
set_option maxRecDepth 100000 in
set_option maxHeartbeats 1000000 in
theorem joins_walk (s t : ByteArray) (w : World) (hs : s.size ≤ 140737488355328) (ht : t.size ≤ 140737488355328) (hT : Tab w) :
    Calls Tryd.prog 8 #[.string s, .string t] w fun e w' => e = .returned (.bool true) ∧ Below w.heap.size w w' := by
  have hpos := hT.pos
  have HT := hide hT
  clear hT
  have HJ := hide (join_eq s.data.toList t.data.toList)
  have HJ0 : Hid (∀ (a b : Nat) (n : Int), n ≤ 0 → joinS a b n = a ^^^ b) := by
    intro a b n hn; unfold joinS; rw [show n.toNat = 0 from by omega]; rfl
  have hfs := fold_lt s.data.toList 4294967295 (by decide)
  have hft := fold_lt t.data.toList 4294967295 (by decide)
  have HA : Hid (4294967295 - fold t.data.toList (fold s.data.toList 4294967295) = 4294967295 - fold (s.data.toList ++ t.data.toList) 4294967295) := by rw [fold_append]; rfl
  have HN := hide (nn (fold s.data.toList 4294967295) hfs)
  have hcat : (s ++ t).data.toList = s.data.toList ++ t.data.toList := by simp [ByteArray.data_append]
  have HC := hide hcat
  clear hcat
  go_enter Tryd.func8, Tryd.ntmps8
  go_wp2_with fail
  refine (works_ok w (unhide HT)).mono ?_
  rintro e w1 ⟨rfl, hb⟩
  have HB := hide hb
  have HT1 := hide ((unhide HT).below hb hpos)
  clear hb
  go_wp2_with fail
  refine (cSum s _ (by omega) (unhide HT1)).mono ?_
  rintro e w2 ⟨rfl, rfl⟩
  go_wp2_with fail
  refine (cSum t _ (by omega) (unhide HT1)).mono ?_
  rintro e w2 ⟨rfl, rfl⟩
  go_wp2_with fail
  refine (cSum (s ++ t) _ (by simp [ByteArray.size_append]; omega) (unhide HT1)).mono ?_
  rintro e w2 ⟨rfl, rfl⟩
  rw [unhide HC]
  have hfst := fold_lt (s.data.toList ++ t.data.toList) 4294967295 (by decide)
  obtain ⟨A, hA⟩ : ∃ A, A = 4294967295 - fold s.data.toList 4294967295 := ⟨_, rfl⟩
  obtain ⟨B, hB⟩ : ∃ B, B = 4294967295 - fold t.data.toList 4294967295 := ⟨_, rfl⟩
  obtain ⟨C, hC⟩ : ∃ C, C = 4294967295 - fold (s.data.toList ++ t.data.toList) 4294967295 := ⟨_, rfl⟩
  have hAl : A < 4294967296 := by omega
  have hBl : B < 4294967296 := by omega
  have h1 : 4294967295 - fold t.data.toList (4294967295 - A) = C := by rw [hA, (unhide HN).2, unhide HA, hC]
  have h2 : joinS A B t.data.toList.length = C := by rw [hA, hB, unhide HJ, hC]
  have h3 : 4294967295 - fold s.data.toList (4294967295 - 0) = A := by rw [hA]
  rw [← hA, ← hB, ← hC]
  have hx := x32 A B hAl hBl
  have h2' : joinS A B t.size = C := by rw [← size_toList t]; exact h2
  have K1 := hide h1
  have K2 := hide h2'
  have K3 := hide h3
  clear h1 h2 h2' h3 hA hB hC hfs hft hfst HJ HA HN HC
  go_wp2_with fail
  refine (cOn A t _ hAl (by omega) (unhide HT1)).mono ?_
  rintro e w2 ⟨rfl, rfl⟩
  rw [unhide K1]
  go_wp2_with fail
  refine (cJoined A B t.size _ hAl hBl (by omega)).mono ?_
  rintro e w2 ⟨rfl, rfl⟩
  rw [unhide K2]
  go_wp2_with fail
  refine (cOn 0 s _ (by decide) (by omega) (unhide HT1)).mono ?_
  rintro e w2 ⟨rfl, rfl⟩
  rw [unhide K3]
  go_wp2_with fail
  refine (cJoined A B 0 _ hAl hBl (by decide)).mono ?_
  rintro e w2 ⟨rfl, rfl⟩
  rw [unhide HJ0 A B 0 (by decide)]
  go_wp2_with fail
  refine (cJoined A B (-(s.size : Int)) _ hAl hBl (by omega)).mono ?_
  rintro e w2 ⟨rfl, rfl⟩
  rw [unhide HJ0 A B _ (by omega)]
  go_wp2
  go_ret
  exact ⟨rfl, unhide HB⟩
end Go.Proofs.YtpjepndeppckdaaDoor
