/- Sorting numbers of 64 bits: Sort sorts every list (of fewer than 65536 numbers). -/
import Derived.Test.YtopabadnbelegaaQSom
namespace Go.Proofs.Ytopabadnbelegaa.K
open Go.RowKit Go.Lib
open Go.Proofs.Ytopabadnbelegaa.S (Rec)
theorem flatW (l : List (BitVec 64)) : RW.flat l = l.map (fun x => Value.int .u64 (x.toNat : Int)) := by
  induction l with
  | nil => rfl
  | cons x l ih =>
    show [Value.int .u64 (x.toNat : Int)] ++ RW.flat l = _
    rw [ih]
    rfl
theorem srt_unique (d : Array (BitVec 64)) : (Sort.sort ltB d).toList = srtB d.toList := by
  have h := Sort.sort_sorts ltB swoB d
  have e := Sort.sorted_unique_holds (lt := ltB) swoB (fun x y h1 h2 => by
    unfold ltB at h1 h2
    rw [decide_eq_false_iff_not] at h1 h2
    exact BitVec.eq_of_toNat_eq (by omega)) d _ h.1 h.2
  rw [e]
  unfold srtB
  congr 1
  funext x y
  unfold ltB
  by_cases q : x.toNat ≤ y.toNat
  · rw [decide_eq_true q, decide_eq_false (by omega)]; rfl
  · rw [decide_eq_false q, decide_eq_true (by omega)]; rfl
set_option maxHeartbeats 2000000 in
theorem kSortRw (g c n N : Nat) (t : TypeId) (hm : n < 65536) (d : Array (BitVec 64)) (u : World) (h : Rw u g t N d) (hn : n = d.size) : Calls Try.prog 28 #[.slice (some ⟨g, 0, none⟩) n c] u fun e u' => e = .returned (.tuple #[]) ∧ So u u' g t N (Sort.sort ltB d) ∧ (Sort.sort ltB d).size = n := by
  have HL := hide (kLenS n hm u)
  have hk : Sort.bitsLen n ≤ 64 := Nat.le_trans ((Sort.bitsLen_le_iff n 16).2 (by omega)) (by omega)
  have HP := hide (kPdq g c n N t hm n 0 n (Sort.bitsLen n) d u (by omega) h hn (Nat.zero_le _) (Nat.le_refl _) hk)
  have e : Sort.sort ltB d = Sort.pdq ltB d 0 n (Sort.bitsLen n) true true := by unfold Sort.sort; rw [hn]
  rw [← e] at HP
  rw [show ((0 : Nat) : Int) = 0 from rfl] at HP
  have hw : IntKind.u64.wrap (n : Int) = (n : Int) := by rw [IntKind.wrap_u64]; omega
  clear h hn e hk
  generalize Sort.bitsLen n = k at *
  go_enter Try.func28, Try.ntmps28
  go_wp2_with (first
    | (go_at_call 43; refine (unhide HL).mono ?_; rintro e wq ⟨rfl, hwq⟩; obtain rfl := hwq.symm)
    | (go_at_call 42; refine (unhide HP).mono ?_; rintro e wq ⟨rfl, HQ⟩; replace HQ := hide HQ)
    | fail)
  go_returns
  exact ⟨rfl, unhide HQ⟩
theorem sort_all (m : List (BitVec 64)) (hm : m.length < 65536) : SortOK m := by
  rcases Nat.lt_or_ge 1 m.length with h1 | h1
  · intro u B ao c ho
    obtain ⟨hx, h⟩ := ho
    rcases h with ⟨_, h0⟩ | ⟨g, cap, cur, hv, hB, hg, hnc, hcm, hcs, htk⟩
    · omega
    · obtain ⟨rfl, rfl⟩ : ao = some ⟨g, 0, none⟩ ∧ c = cap := by
        simp only [Value.slice.injEq] at hv
        exact ⟨hv.1, hv.2.2⟩
      rw [show RW.n = 1 from rfl, Nat.mul_one] at hcs htk
      have hR : Rw u g RW.et c m.toArray := ⟨cur, hg, hcs, fun j hj => by
        have hj2 : j < m.length := by simpa using hj
        have e1 : (cur.toList.take m.length)[j]? = cur.toList[j]? := by rw [List.getElem?_take]; rw [if_pos hj2]
        have e2 : cur[j]? = (RW.flat m)[j]? := by rw [← htk, e1]; simp
        rw [e2, flatW, List.getElem?_map, List.getElem?_eq_getElem hj2]
        simp [hj2]⟩
      refine (kSortRw g c m.length c RW.et hm m.toArray u hR (by simp)).mono ?_
      rintro e u' ⟨rfl, hS, hz⟩
      have hl : (srtB m).length = m.length := by unfold srtB; exact List.length_mergeSort _
      have he : (Sort.sort ltB m.toArray).toList = srtB m := srt_unique m.toArray
      refine ⟨rfl, ?_, ?_⟩
      · obtain ⟨cs, k1, k2, k3⟩ := hS.rw'.row
        show World.ownsRow _ _ _ _ _ _ _
        refine ⟨by rw [flatW, List.length_map, hl]; exact (Nat.mul_one _).symm, .inr ⟨g, c, cs, by rw [hl], hB, k1, by rw [hl]; exact hnc, hcm, by rw [k2]; exact (Nat.mul_one _).symm, ?_⟩⟩
        rw [show RW.n = 1 from rfl, Nat.mul_one, hl, flatW, ← he]
        apply List.ext_getElem?
        intro j
        rw [List.getElem?_take, List.getElem?_map]
        by_cases hj : j < m.length
        · rw [if_pos hj]
          have k4 := k3 j (by rw [hz]; exact hj)
          have e5 : cs.toList[j]? = cs[j]? := by simp
          rw [e5, k4]
          have hj3 : j < (Sort.sort ltB m.toArray).size := by rw [hz]; exact hj
          have e6 : (Sort.sort ltB m.toArray).toList[j]? = some ((Sort.sort ltB m.toArray)[j]!) := by
            rw [getElem!_pos _ j hj3]
            simp [hj3]
          rw [e6]
          rfl
        · rw [if_neg hj]
          have e6 : (Sort.sort ltB m.toArray).toList[j]? = none := List.getElem?_eq_none (by rw [Array.length_toList, hz]; omega)
          rw [e6]
          rfl
      · exact ⟨hS.alt.os, hS.alt.tape, hS.alt.output, hS.alt.size, fun k hk hne => hS.alt.block k hk (fun e => hne (by rw [e]; rfl))⟩
  · exact sort_one m h1
end Go.Proofs.Ytopabadnbelegaa.K
