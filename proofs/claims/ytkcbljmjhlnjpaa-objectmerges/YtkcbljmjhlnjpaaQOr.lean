/- ObjectBack: mathematics. -/
import Derived.Test.YtkcbljmjhlnjpaaQOn
namespace Go.Proofs.Ytkcbljmjhlnjpaa
open Go.RowKit Go.Lib
theorem ba_len (b : ByteArray) : b.size = b.toList.length := by rw [ByteArray.toList_eq]; rfl
theorem cell_size (k : ByteArray) : (cellK k).size = 2 + k.size := by
  rw [ba_len, cell_toList, ba_len k]
  simp only [List.length_cons]
  omega
theorem cell_ext (k : ByteArray) : (cellK k).extract 2 (cellK k).size = k := by
  apply ba_list
  have h := cell_toList k
  rw [ByteArray.toList_eq] at h ⊢
  rw [ByteArray.toList_eq] at h ⊢
  rw [ByteArray.data_extract, Array.toList_extract, List.extract_eq_take_drop, h]
  have h2 : (cellK k).size = k.data.toList.length + 2 := by rw [cell_size, ba_len k, ByteArray.toList_eq]; omega
  rw [h2]
  simp only [Nat.add_sub_cancel, List.drop_succ_cons, List.drop_zero]
  exact List.take_of_length_le (Nat.le_refl _)
theorem cell_get (k : ByteArray) (W : World) : (Instr.index 9 (.string (cellK k)) (.int .i64 0)).run Try.prog W = .ok (.int .u8 ((plN k / 256 : Nat) : Int)) W ∧ (Instr.index 9 (.string (cellK k)) (.int .i64 1)).run Try.prog W = .ok (.int .u8 ((plN k % 256 : Nat) : Int)) W := by
  have hl := plN_lt k
  have hs := cell_size k
  have h := cell_toList k
  rw [ByteArray.toList_eq] at h
  have h0 : (cellK k).data[0]? = some (UInt8.ofNat (plN k / 256)) := by rw [← Array.getElem?_toList, h]; rfl
  have h1 : (cellK k).data[1]? = some (UInt8.ofNat (plN k % 256)) := by rw [← Array.getElem?_toList, h]; rfl
  rw [run_index_string W 9 _ _ _ Try.underlying9, run_index_string W 9 _ _ _ Try.underlying9]
  have e0 : ((cellK k)[0]'(by omega)).toNat = plN k / 256 := by
    have : (cellK k)[0]'(by omega) = UInt8.ofNat (plN k / 256) := by
      have h2 := (Array.getElem?_eq_some_iff.1 h0).2
      exact h2
    rw [this]
    exact Nat.mod_eq_of_lt (by omega)
  have e1 : ((cellK k)[1]'(by omega)).toNat = plN k % 256 := by
    have : (cellK k)[1]'(by omega) = UInt8.ofNat (plN k % 256) := by
      have h2 := (Array.getElem?_eq_some_iff.1 h1).2
      exact h2
    rw [this]
    exact Nat.mod_eq_of_lt (by omega)
  refine ⟨?_, ?_⟩
  · rw [dif_pos ⟨by decide, by omega⟩]
    show Result.ok (Value.int .u8 (((cellK k)[0]'(by omega)).toNat : Int)) W = _
    rw [e0]
  · rw [dif_pos ⟨by decide, by omega⟩]
    show Result.ok (Value.int .u8 (((cellK k)[1]'(by omega)).toNat : Int)) W = _
    rw [e1]
theorem pack_cases (o : Ot) : (ckE o = 0 ∧ o.st.seen.length ≠ 0 ∧ packV o = (cellK o.key, ⟨(stB o.st).toArray⟩, 0)) ∨ (ckE o = 0 ∧ o.st.seen.length = 0 ∧ packV o = (eB, eB, 110)) ∨ (ckE o ≠ 0 ∧ packV o = (eB, eB, ckE o)) := by
  unfold packV
  by_cases h : ckE o = 0
  · by_cases h0 : o.st.seen.length = 0
    · exact .inr (.inl ⟨h, h0, by rw [if_pos h, if_pos h0]⟩)
    · exact .inl ⟨h, h0, by rw [if_pos h, if_neg h0]⟩
  · exact .inr (.inr ⟨h, by rw [if_neg h]⟩)
theorem unp_pack {o : Ot} (hc : ckE o = 0) (h0 : o.st.seen.length ≠ 0) (hf : FitT o.st) : unpV (cellK o.key) ⟨(stB o.st).toArray⟩ = (o, 0) := by
  have hd := decT_enc (ck_zero.1 hc).2.1 hf
  have hu : unpO (cellK o.key) ⟨(stB o.st).toArray⟩ = o := by
    unfold unpO
    rw [hd, cell_ext]
  unfold unpV
  rw [hu, if_pos ⟨by rw [cell_size]; omega, by rw [hd], by unfold packV; rw [if_pos hc, if_neg h0]⟩]
theorem unp_cases (k z : ByteArray) : (∃ J, unpV k z = (J, 0) ∧ packV J = (k, z, 0) ∧ ckE J = 0 ∧ SOk J.st ∧ FitT J.st) ∨ unpV k z = (Ot.none, 4) := by
  unfold unpV
  by_cases h : 2 ≤ k.size ∧ (decT z).2 = 0 ∧ packV (unpO k z) = (k, z, 0)
  · rw [if_pos h]
    have hc : ckE (unpO k z) = 0 := by
      rcases pack_cases (unpO k z) with ⟨h1, -, -⟩ | ⟨h1, -, -⟩ | ⟨h1, h2⟩
      · exact h1
      · exact h1
      · rw [h.2.2] at h2
        exact absurd (Prod.mk.inj (Prod.mk.inj h2).2).2.symm h1
    refine .inl ⟨_, rfl, h.2.2, hc, (ck_zero.1 hc).2.1, ?_⟩
    rcases decT_cases z with ⟨T, h1, h2, h3, -⟩ | h1
    · show FitT (decT z).1
      rw [h1]; exact h3
    · rw [h1] at h; cases h.2.1
  · rw [if_neg h]; exact .inr rfl
end Go.Proofs.Ytkcbljmjhlnjpaa
