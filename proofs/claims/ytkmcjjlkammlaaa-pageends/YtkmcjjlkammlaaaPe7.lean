/- Ends and Blank of all bytes, both sides; the walk of PageEnds. -/
import Derived.Test.YtkmcjjlkammlaaaPv7
namespace Go.Proofs.Ytkmcjjlkammlaaa
open Go.RowKit

theorem pEndsBad (n : Nat) (hn : n ≠ 1024) (ao : Option Addr) (cap : Nat) (w : World) : Calls Try.prog 6 #[.slice ao n cap] w fun e w' => e = .returned (.tuple #[.int .u64 0, .int .u64 0, .bool false]) ∧ w' = w := by
  have hni : ¬ (n : Int) = 1024 := by omega
  clear hn
  go_enter Try.func6, Try.ntmps6
  go_wp2
  refine bodyPost_ret (v := .tuple #[.int .u64 0, .int .u64 0, .bool false]) (by simp [results, Try.f6]) rfl ?_
  exact ⟨rfl, rfl⟩
theorem pBlankBad (n : Nat) (hn : n ≠ 1024) (ao : Option Addr) (cap : Nat) (w : World) : Calls Try.prog 7 #[.slice ao n cap] w fun e w' => e = .returned (.bool false) ∧ w' = w := by
  have hni : ¬ (n : Int) = 1024 := by omega
  clear hn
  go_enter Try.func7, Try.ntmps7
  go_wp2
  go_ret
  exact ⟨rfl, rfl⟩
theorem mEndsBad (T : ByteArray) (hn : T.size ≠ 1024) (w : World) : Calls Try.prog 5 #[.string T] w fun e w' => e = .returned (.tuple #[.int .u64 0, .int .u64 0, .bool false]) ∧ w' = w := by
  have hni : ¬ (T.size : Int) = 1024 := by omega
  clear hn
  go_enter Try.func5, Try.ntmps5
  go_wp2
  refine bodyPost_ret (v := .tuple #[.int .u64 0, .int .u64 0, .bool false]) (by simp [results, Try.f5]) rfl ?_
  exact ⟨rfl, rfl⟩
set_option maxRecDepth 100000 in
theorem mEnds (T : ByteArray) (hT : T.size = 1024) (w : World) : Calls Try.prog 5 #[.string T] w fun e w' => e = .returned (.tuple #[.int .u64 (numB (T.extract 0 8).data.toList : Int), .int .u64 (numB (T.extract 1016 1024).data.toList : Int), .bool true]) ∧ Below w.heap.size w w' := by
  have hTi : (T.size : Int) = 1024 := by omega
  have HN1 : Hid (∀ u, Calls Try.prog 10 #[.string (T.extract 0 8)] u fun e w' => e = .returned (.int .u64 (numB (T.extract 0 8).data.toList : Int)) ∧ w' = u) := fun u => mNumber _ (by rw [ByteArray.size_extract]; omega) u
  have HN2 : Hid (∀ u, Calls Try.prog 10 #[.string (T.extract 1016 1024)] u fun e w' => e = .returned (.int .u64 (numB (T.extract 1016 1024).data.toList : Int)) ∧ w' = u) := fun u => mNumber _ (by rw [ByteArray.size_extract]; omega) u
  generalize numB (T.extract 0 8).data.toList = h8 at *
  generalize numB (T.extract 1016 1024).data.toList = t8 at *
  go_enter Try.func5, Try.ntmps5
  go_wp2
  go_region_held3 (fun _ => True) (exact trivial) (first
    | (go_at_call_of 10 (Value.string (T.extract 0 8)); refine (unhide HN1 _).mono ?_; rintro e w5 ⟨rfl, rfl⟩)
    | (go_at_call 10; refine (unhide HN2 _).mono ?_; rintro e w6 ⟨rfl, rfl⟩))
  all_goals (
    go_wp2
    refine bodyPost_ret (v := .tuple #[.int .u64 (h8 : Int), .int .u64 (t8 : Int), .bool true]) (by simp [results, Try.f5]) rfl ?_
    exact ⟨rfl, (show Below w.heap.size w w.drew from ⟨rfl, rfl, rfl, Nat.le_refl _, fun _ _ => rfl⟩)⟩)
set_option maxRecDepth 100000 in
set_option maxHeartbeats 4000000 in
theorem ends_all (l : List UInt8) (ao : Option Addr) (cap : Nat) (w : World) (hl : LiesB w ao l) (hsz : l.length ≤ 140737488351232) :
    Calls Try.prog 3 #[.slice ao l.length cap] w fun e w' => e = .returned (.bool true) ∧ Below w.heap.size w w' := by
  have HLe := hide (lLent l ao cap w hl (by omega))
  have HCv := hide (fun u (hb : Below w.heap.size w u) => conv_liesE ((LiesB.keep hl hb (Nat.le_refl _) : LiesB u ao l)) l.length cap rfl)
  have HKp := hide (fun g c u (hb : BR w u g c (l ++ mks 66)) => lKept l g c ao cap w u hb (LiesB.keep hl hb.bel (Nat.le_refl _) : LiesB u ao l) (by omega))
  have HB1 := hide (fun u => mBlank l u)
  obtain ⟨a, b, ok, HE1, HE2⟩ : ∃ (a b : Nat) (ok : Bool), Hid (∀ u, Calls Try.prog 5 #[.string ⟨l.toArray⟩] u fun e w' => e = .returned (.tuple #[.int .u64 (a : Int), .int .u64 (b : Int), .bool ok]) ∧ Below u.heap.size u w') ∧ Hid (∀ u g c, BR w u g c (l ++ mks 66) → Calls Try.prog 6 #[.slice (some ⟨g, 0, none⟩) l.length c] u fun e w' => e = .returned (.tuple #[.int .u64 (a : Int), .int .u64 (b : Int), .bool ok]) ∧ Below u.heap.size u w') := by
    by_cases h : l.length = 1024
    · have hT : (⟨l.toArray⟩ : ByteArray).size = 1024 := by rw [← size_toList]; exact h
      have e1 : ((⟨l.toArray⟩ : ByteArray).extract 0 8).data.toList = l.take 8 := by rw [ext_list, List.drop_zero]
      have e2 : ((⟨l.toArray⟩ : ByteArray).extract 1016 1024).data.toList = l.drop 1016 := by rw [ext_list, List.take_of_length_le (by omega)]
      refine ⟨hd8 l, tl8 l, true, fun u => ?_, fun u g c hb => ?_⟩
      · have := mEnds ⟨l.toArray⟩ hT u
        rw [e1, e2] at this
        exact this
      · have hm := hb.max
        have hle := hb.le
        rw [List.length_append] at hle
        rw [h]
        exact pEnds l h g 0 c (by omega) (by unfold maxLen at hm; omega) u hb.lt (fun j hj => by rw [Nat.zero_add]; exact hb.front.cell j hj)
    · have hT : (⟨l.toArray⟩ : ByteArray).size ≠ 1024 := by rw [← size_toList]; exact h
      refine ⟨0, 0, false, fun u => (mEndsBad _ hT u).mono ?_, fun u g c _ => (pEndsBad l.length h _ c u).mono ?_⟩
      all_goals (rintro e w' ⟨rfl, rfl⟩; exact ⟨rfl, Below.refl _ _⟩)
  have HB2 : Hid (∀ u g c, BR w u g c (l ++ mks 66) → Calls Try.prog 7 #[.slice (some ⟨g, 0, none⟩) l.length c] u fun e w' => e = .returned (.bool (decide (l = zeros 1024))) ∧ w' = u) := fun u g c hb => by
    by_cases h : l.length = 1024
    · rw [h]
      exact pBlank l h g 0 c u (LiesB.range fun j hj => by rw [Nat.zero_add]; exact hb.front.cell j hj)
    · rw [decide_eq_false (fun e => h (by rw [e, zeros, List.length_replicate]))]
      exact pBlankBad l.length h _ c u
  generalize decide (l = zeros 1024) = bl at *
  clear hl hsz
  go_enter Try.func3, Try.ntmps3
  go_wp2_with fail
  refine (unhide HLe).mono ?_
  rintro e w1 ⟨g, c, rfl, hbr⟩
  have HI := hide hbr
  have hcv := unhide HCv w1 hbr.bel
  clear hbr HLe
  go_wp2_with fail
  clear hcv
  refine (unhide HE1 _).mono ?_
  rintro e w2 ⟨rfl, hb⟩
  have HI2 := hide ((unhide HI).below hb)
  clear hb HI HE1
  go_wp2_with fail
  refine (unhide HE2 _ g c (unhide HI2)).mono ?_
  rintro e w3 ⟨rfl, hb⟩
  have HI3 := hide ((unhide HI2).below hb)
  clear hb HI2 HE2
  have HId := hide ((unhide HI3).below (show Below w3.heap.size w3 w3.drew from ⟨rfl, rfl, rfl, Nat.le_refl _, fun _ _ => rfl⟩))
  have hcv := unhide HCv _ (unhide HI3).bel
  have hcd := unhide HCv _ (unhide HId).bel
  go_wp2_with fail
  go_region_held3 (fun u => (convert 22 9 (.slice ao l.length cap)).run Try.prog u = .ok (.string ⟨l.toArray⟩) u) (first | exact hcd | exact hcv | exact unhide HCv _ (unhide HI5).bel | (go_keep; done)) (first
    | (go_at_call 7; refine (unhide HB2 _ g c (unhide HId)).mono ?_; rintro e w4 ⟨rfl, rfl⟩)
    | (go_at_call 8; refine (unhide HB1 _).mono ?_; rintro e w5 ⟨rfl, hb⟩; have HI5 := hide ((unhide HId).below hb); clear hb)
    | (go_at_call 9; refine (unhide HKp g c _ (unhide HI5)).mono ?_; rintro e w6 ⟨rfl, rfl⟩))
  all_goals (
    go_wp2
    go_ret
    exact ⟨rfl, (unhide HI5).bel⟩)
end Go.Proofs.Ytkmcjjlkammlaaa
