/- Nodes: facts of a branch that has grown. -/
import Derived.Test.YtppmpomfihalfaaNrl
namespace Go.Proofs.Ytppmpomfihalfaa

theorem take_drop_back {α : Type} (l : List α) (k : Nat) (x : α) (hk : k ≤ l.length) : (l.take k ++ (x :: l.drop k)).take k ++ (l.take k ++ (x :: l.drop k)).drop (k + 1) = l := by
  have hl : (l.take k).length = k := by rw [List.length_take]; omega
  have h1 : (l.take k ++ (x :: l.drop k)).take k = l.take k := by
    conv => lhs; rw [show k = (l.take k).length from hl.symm]
    rw [hl]
    exact List.take_left' hl
  have h2 : (l.take k ++ (x :: l.drop k)).drop (k + 1) = l.drop k := by
    rw [show l.take k ++ (x :: l.drop k) = (l.take k ++ [x]) ++ l.drop k by simp]
    exact List.drop_left' (by simp [hl])
  rw [h1, h2, List.take_append_drop]
theorem Nd.grow_shrink {n : Nd} {k : Nat} {key : ByteArray} {kid : Nat} (hlf : n.leaf = false) (hc : n.cells = []) (hk : k ≤ n.keys.length) (hg : n.kids.length = n.keys.length + 1) : (n.grow k key kid).shrink k = n := by
  obtain ⟨lf, cs, ks, gs⟩ := n
  subst hlf hc
  have h1 := take_drop_back ks k key hk
  have h2 := take_drop_back gs (k + 1) kid (by simp only at hg hk; omega)
  show Nd.mk false [] _ _ = Nd.mk false [] _ _
  congr 1
theorem Nd.grow_kind {n : Nd} {k : Nat} {key : ByteArray} {kid : Nat} (hk : n.Kind) (hlf : n.leaf = false) (hkl : k ≤ n.keys.length) (hz : kid ≠ 0) : (n.grow k key kid).Kind := by
  unfold Nd.Kind at hk
  rw [if_neg (by rw [hlf]; decide)] at hk
  unfold Nd.Kind
  rw [if_neg (by simp [Nd.grow])]
  refine ⟨fun x hx => ?_, rfl, ?_⟩
  · rcases List.mem_append.1 hx with hx | hx
    · exact hk.1 x (List.mem_of_mem_take hx)
    · rcases List.mem_cons.1 hx with rfl | hx
      · exact hz
      · exact hk.1 x (List.mem_of_mem_drop hx)
  · have := hk.2.2
    simp only [Nd.grow, List.length_append, List.length_take, List.length_drop, List.length_cons]
    omega
theorem Nd.check_not80 {n : Nd} (hk : n.Kind) : n.check = 0 ∨ n.check = 81 ∨ n.check = 82 := by
  unfold Nd.check
  rw [if_neg (fun h => h hk)]
  split
  · exact .inr (.inr rfl)
  · split
    · exact .inr (.inl rfl)
    · split
      · exact .inr (.inr rfl)
      · exact .inl rfl
theorem kplc_grow {ks : List ByteArray} {key : ByteArray} (hu : rises ks) : kplc (ks.take (kplc ks key) ++ (key :: ks.drop (kplc ks key))) key = kplc ks key + 1 := by
  have hle := kplc_le ks key
  have hab := fun i h h2 => kplc_above (ks := ks) (key := key) hu (i := i) h h2
  have hbl := fun i h h2 => kplc_below (ks := ks) (key := key) (i := i) h h2
  generalize kplc ks key = k at *
  unfold kplc
  rw [List.takeWhile_append_of_pos (fun x hx => ?_)]
  · rw [List.takeWhile_cons, if_pos (by simp [lt_irrefl])]
    cases hd : ks.drop k with
    | nil => simp [List.length_take]; omega
    | cons y r =>
      have hk : k < ks.length := by
        have := congrArg List.length hd
        rw [List.length_drop] at this
        simp at this
        omega
      have hy : y = ks[k] := by
        have := List.drop_eq_getElem_cons hk
        rw [hd] at this
        exact (List.cons.inj this).1
      rw [List.takeWhile_cons, if_neg (by rw [hy, hab k (Nat.le_refl _) hk]; decide)]
      simp [List.length_take]
      omega
  · obtain ⟨j, hj, rfl⟩ := List.mem_iff_getElem.1 hx
    have hjk : j < k := by rw [List.length_take] at hj; omega
    rw [List.getElem_take, hbl j hjk (by omega)]
    rfl
end Go.Proofs.Ytppmpomfihalfaa
