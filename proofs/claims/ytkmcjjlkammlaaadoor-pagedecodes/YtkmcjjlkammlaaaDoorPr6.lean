/- What Decode answers, as the document says it. -/
import Derived.Test.YtkmcjjlkammlaaaDoorPn6
namespace Go.Proofs.YtkmcjjlkammlaaaDoor
open Go.RowKit Go.Lib

def lenOf (T : ByteArray) : Nat := numB (T.extract 10 12).data.toList
def byteAt (T : ByteArray) (k : Nat) : Nat := numB (T.extract k (k + 1)).data.toList
/-- the page that bytes tell of, by the document -/
def refP (T : ByteArray) (num : Nat) : Pg := ⟨byteAt T 8, num, numB (T.extract 0 8).data.toList, T.extract 20 (20 + lenOf T)⟩
theorem numB_le (T : ByteArray) (a b k : Nat) (h : b ≤ a + k) : numB (T.extract a b).data.toList < 256 ^ k := by
  refine Nat.lt_of_lt_of_le (numB_lt _) (Nat.pow_le_pow_right (by decide) ?_)
  rw [size_toList, ByteArray.size_extract]; omega
theorem refP_fit (T : ByteArray) (num : Nat) (hn : num < 4294967296) : (refP T num).Fit :=
  ⟨numB_le T 8 9 1 (by decide), hn, numB_le T 0 8 8 (by decide)⟩
theorem claim_ref (T : ByteArray) (hT : T.size = 1024) (hn : lenOf T ≤ 996) : claim T = refP T (claim T).num := by
  have hb : (rawS T 20 0 (lenOf T : Nat)).1 = T.extract 20 (20 + lenOf T) := by
    rw [rawS, if_neg (by simp), if_neg (by omega), if_neg (by omega)]
    simp
  show claim T = ⟨byteAt T 8, numB (T.extract 12 16).data.toList, numB (T.extract 0 8).data.toList, T.extract 20 (20 + lenOf T)⟩
  rw [← hb]
  have hk : numB (T.extract 8 9).data.toList % 256 = byteAt T 8 := Nat.mod_eq_of_lt (numB_le T 8 9 1 (by decide))
  rw [← hk]
  rfl
theorem dec_ref (l : List UInt8) (num : Nat) (hnum : num < 4294967296) (hl : l.length = 1024) (hz : l ≠ zeros 1024) :
    (lenOf ⟨l.toArray⟩ ≤ 996 ∧ (refP ⟨l.toArray⟩ num).wrong = 0 ∧ (refP ⟨l.toArray⟩ num).enc = l ∧ dec l num = (refP ⟨l.toArray⟩ num, 0)) ∨ (¬ (lenOf ⟨l.toArray⟩ ≤ 996 ∧ (refP ⟨l.toArray⟩ num).wrong = 0 ∧ (refP ⟨l.toArray⟩ num).enc = l) ∧ dec l num = (Pg.zero, 50)) := by
  classical
  have hT : (⟨l.toArray⟩ : ByteArray).size = 1024 := by rw [← size_toList]; exact hl
  by_cases H : lenOf ⟨l.toArray⟩ ≤ 996 ∧ (refP ⟨l.toArray⟩ num).wrong = 0 ∧ (refP ⟨l.toArray⟩ num).enc = l
  · left
    obtain ⟨h1, h2, h3⟩ := H
    refine ⟨h1, h2, h3, ?_⟩
    have hc := claim_enc (refP ⟨l.toArray⟩ num) (refP_fit _ _ hnum) (Pg.may h2).2
    rw [h3] at hc
    rw [dec, if_neg (by simpa using hl), if_neg hz, hc, if_pos ⟨rfl, h2, h3⟩]
  · right
    refine ⟨H, ?_⟩
    rw [dec, if_neg (by simpa using hl), if_neg hz, if_neg ?_]
    rintro ⟨h1, h2, h3⟩
    have hs := (Pg.may h2).2
    have hn : lenOf ⟨l.toArray⟩ = (claim ⟨l.toArray⟩).body.size := by
      have h4 : (l.take 12).drop 10 = fixB (claim ⟨l.toArray⟩).body.size 2 := by
        generalize claim ⟨l.toArray⟩ = q at h3
        subst h3
        rw [Pg.enc_eq]
        have e : fixB q.ser 8 ++ ([UInt8.ofNat q.kind] ++ ([0] ++ (fixB q.body.size 2 ++ (fixB q.num 4 ++ (fixB q.sum 4 ++ (q.body.data.toList ++ (zeros (996 - q.body.size) ++ fixB q.ser 8))))))) = (fixB q.ser 8 ++ [UInt8.ofNat q.kind] ++ [0]) ++ (fixB q.body.size 2 ++ (fixB q.num 4 ++ (fixB q.sum 4 ++ (q.body.data.toList ++ (zeros (996 - q.body.size) ++ fixB q.ser 8))))) := by simp only [List.append_assoc]
        rw [e]
        exact seg _ _ _ 10 12 (by simp [fixB_length]) (by rw [fixB_length])
      rw [lenOf, ext_list, h4, numB_fixB]
      exact Nat.mod_eq_of_lt (Nat.lt_of_le_of_lt hs (by decide))
    have hc := claim_ref ⟨l.toArray⟩ hT (by rw [hn]; exact hs)
    rw [h1] at hc
    exact H ⟨by rw [hn]; exact hs, by rw [← hc]; exact h2, by rw [← hc]; exact h3⟩
end Go.Proofs.YtkmcjjlkammlaaaDoor
