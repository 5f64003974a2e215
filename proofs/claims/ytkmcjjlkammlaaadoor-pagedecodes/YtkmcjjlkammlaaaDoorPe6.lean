/- The document's Decode of all bytes. -/
import Derived.Test.YtkmcjjlkammlaaaDoorPd6
namespace Go.Proofs.YtkmcjjlkammlaaaDoor
open Go.RowKit Go.Lib

theorem mDecAny (l : List UInt8) (num : Nat) (hnum : num < 4294967296) (w : World) : Calls Tryd.prog 13 #[.string ⟨l.toArray⟩, .int .u32 (num : Int)] w fun e w' => e = .returned (.tuple #[.agg (dec l num).1.cs, .int .i64 (dec l num).2]) ∧ Below w.heap.size w w' := by
  classical
  by_cases hl : l.length = 1024
  · have hT : (⟨l.toArray⟩ : ByteArray).size = 1024 := by rw [← size_toList]; exact hl
    have hbk := mBlank l
    by_cases hz : l = zeros 1024
    · have e : dec l num = (Pg.zero, 51) := by rw [dec, if_neg (by simpa using hl), if_pos hz]
      rw [decide_eq_true hz] at hbk
      rw [e]
      exact mDecodeBlank ⟨l.toArray⟩ hT hbk num w
    · rw [decide_eq_false hz] at hbk
      have hf := refP_fit ⟨l.toArray⟩ num hnum
      have hen := fun u => mEncAny (refP ⟨l.toArray⟩ num) hf u
      rcases dec_ref l num hnum hl hz with ⟨h1, h2, h3, h4⟩ | ⟨h1, h4⟩
      · rw [h4]
        have hs : (refP ⟨l.toArray⟩ num).encS = ⟨l.toArray⟩ := by rw [Pg.encS, if_pos h2, h3]
        exact mDecodeOk ⟨l.toArray⟩ hT hbk h1 num _ _ _ rfl rfl rfl _ _ hen h2 hs w
      · rw [h4]
        by_cases hn : lenOf ⟨l.toArray⟩ ≤ 996
        · by_cases hw : (refP ⟨l.toArray⟩ num).wrong = 0
          · have hne : ¬ (refP ⟨l.toArray⟩ num).encS = ⟨l.toArray⟩ := fun e => by
              rw [Pg.encS, if_pos hw] at e
              exact h1 ⟨hn, hw, by simpa using e⟩
            exact mDecodeUnlike ⟨l.toArray⟩ hT hbk hn num _ _ _ rfl rfl rfl _ _ hen hw (beq_eq_false_iff_ne.2 (toListNe hne)) w
          · exact mDecodeWrong ⟨l.toArray⟩ hT hbk hn num _ _ _ rfl rfl rfl _ _ hen hw w
        · exact mDecodeBig ⟨l.toArray⟩ hT hbk (by omega) num w
  · have hT : (⟨l.toArray⟩ : ByteArray).size ≠ 1024 := by rw [← size_toList]; exact hl
    have e : dec l num = (Pg.zero, 4) := by rw [dec, if_pos hl]
    rw [e]
    exact mDecodeForm ⟨l.toArray⟩ hT num w
end Go.Proofs.YtkmcjjlkammlaaaDoor
