/- The document's Number, Blank. -/
import Derived.Test.YtkmcjjlkammlaaaDoorPq
import Derived.Test.YtkmcjjlkammlaaaDoorPn
namespace Go.Proofs.YtkmcjjlkammlaaaDoor
open Go.RowKit Go.Lib

set_option maxRecDepth 100000 in
theorem mNumber (t : ByteArray) (ht : t.size ≤ 8) (w : World) : Calls Tryd.prog 25 #[.string t] w fun e w' => e = .returned (.int .u64 (numB t.data.toList : Int)) ∧ w' = w := by
  go_enter Tryd.func25, Tryd.ntmps25
  go_wp2
  go_loop [3, 4] (fun v i => ∃ k : Nat, k ≤ t.size ∧ i = .int .i64 k ∧ v = .int .u64 (numB (t.data.toList.take k))) (fun _ i => t.size - (RowKit.intOf i).toNat)
  case atStart => exact ⟨0, Nat.zero_le _, rfl, rfl⟩
  case round =>
    obtain ⟨k, hk, rfl, rfl⟩ := hrel
    have hb := numB_lt (t.data.toList.take k)
    by_cases hlt : k < t.size
    · have hts := take_snoc t k hlt
      have hsn := numB_snoc (t.data.toList.take k) t[k]
      have HS : Hid (numB (t.data.toList.take (k + 1)) = numB (t.data.toList.take k) * 256 + t[k].toNat) := by rw [hts]; exact hsn
      have hlk : numB (t.data.toList.take k) < 72057594037927936 := by
        rw [List.length_take, size_toList, Nat.min_eq_left (by omega)] at hb
        have : 256 ^ k ≤ 256 ^ 7 := Nat.pow_le_pow_right (by decide) (by omega)
        omega
      have hby := t[k].toNat_lt
      clear hts hsn hb
      generalize hv : numB (t.data.toList.take k) = v at *
      have HV := hide hv
      clear hv
      go_wp2
      go_round
      case rel => exact ⟨k + 1, by omega, by go_num, by rw [unhide HS]; push_cast; go_num⟩
      case measure => simp [RowKit.intOf]; omega
    · have hkk : k = t.size := by omega
      have e : numB (t.data.toList.take k) = numB t.data.toList := by rw [List.take_of_length_le (by rw [size_toList]; omega)]
      have E := hide e
      clear e hb hkk
      go_wp2
      go_ret
      rw [unhide E]
      exact ⟨rfl, rfl⟩
theorem toListNe {a b : ByteArray} (h : ¬ a = b) : ¬ a.toList = b.toList := fun e => h (by
  rw [ByteArray.toList_eq, ByteArray.toList_eq] at e
  cases a; cases b
  simp only at e
  congr 1
  exact Array.toList_inj.1 e)
theorem mBlank (l : List UInt8) (w : World) : Calls Tryd.prog 24 #[.string ⟨l.toArray⟩] w fun e w' => e = .returned (.bool (decide (l = zeros 1024))) ∧ Below w.heap.size w w' := by
  have HN := hide (mNoughts 1024 (Nat.le_refl _) w)
  have inj : ((⟨l.toArray⟩ : ByteArray) = ⟨(zeros 1024).toArray⟩) ↔ l = zeros 1024 := by simp
  by_cases h : l = zeros 1024
  · rw [decide_eq_true h]
    have h2 := inj.2 h
    rw [h2]
    clear h h2 inj
    generalize (⟨(zeros 1024).toArray⟩ : ByteArray) = Z at *
    go_enter Tryd.func24, Tryd.ntmps24
    go_wp2_with fail
    refine (unhide HN).mono ?_
    rintro e w1 ⟨rfl, hb⟩
    have HB := hide hb
    clear hb
    go_wp2
    go_ret
    exact ⟨rfl, unhide HB⟩
  · rw [decide_eq_false h]
    have h2 : ¬ (⟨l.toArray⟩ : ByteArray) = ⟨(zeros 1024).toArray⟩ := fun e => h (inj.1 e)
    clear h inj
    generalize (⟨(zeros 1024).toArray⟩ : ByteArray) = Z at *
    generalize (⟨l.toArray⟩ : ByteArray) = T at *
    go_enter Tryd.func24, Tryd.ntmps24
    go_wp2_with fail
    refine (unhide HN).mono ?_
    rintro e w1 ⟨rfl, hb⟩
    have HB := hide hb
    clear hb
    go_wp2
    go_ret
    exact ⟨congrArg (fun b => Ending.returned (Value.bool b)) (beq_eq_false_iff_ne.2 (toListNe h2)), unhide HB⟩
end Go.Proofs.YtkmcjjlkammlaaaDoor
