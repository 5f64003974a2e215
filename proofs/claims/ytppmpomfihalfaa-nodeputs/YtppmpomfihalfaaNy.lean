/- NodeHolds: a leaf behind Puts and Takes holds what a list would: the theory. Of no program. -/
import Derived.Test.YtppmpomfihalfaaNx
namespace Go.Proofs.Ytppmpomfihalfaa
open Go.RowKit

/-- cells in order -/
def Ord (l : List Cl) : Prop := l.Pairwise fun a b => lt a.key b.key = true
theorem Ord.of {l : List Cl} (h : rises (l.map Cl.key)) : Ord l := by
  refine List.pairwise_iff_getElem.2 fun i j hi hj hij => ?_
  have := rises_lt' h hij (by rw [List.length_map]; exact hj)
  simpa using this
theorem Ord.up {l : List Cl} (h : Ord l) : rises (l.map Cl.key) := fun i hi _ => by
  rw [List.length_map] at hi
  have := List.pairwise_iff_getElem.1 h i (i + 1) (by omega) hi (Nat.lt_succ_self i)
  simpa using this
/-- a leaf that may be -/
structure Lf (n : Nd) : Prop where
  leaf : n.leaf = true
  keys : n.keys = []
  kids : n.kids = []
  ord : Ord n.cells
  ok : ∀ c ∈ n.cells, c.Ok
  size : 3 + (n.cells.map Cl.sz).sum ≤ 1992
theorem Lf.of {n : Nd} (h : n.Ok) (hl : n.leaf = true) : Lf n := by
  have hk := h.kind
  unfold Nd.Kind at hk
  rw [hl] at hk
  have hs := h.size
  unfold Nd.size Nd.szs at hs
  rw [hl] at hs
  exact ⟨hl, List.eq_nil_of_length_eq_zero hk.1, List.eq_nil_of_length_eq_zero hk.2, Ord.of h.up.1, h.small.1, by simpa using hs⟩
theorem Lf.toOk {n : Nd} (h : Lf n) : n.Ok := by
  obtain ⟨lf, cs, ks, gs⟩ := n
  obtain ⟨h1, h2, h3, h4, h5, h6⟩ := h
  simp only at h1 h2 h3 h4 h5 h6
  subst h1 h2 h3
  exact ⟨⟨rfl, rfl⟩, ⟨h5, fun k hk => by cases hk⟩, ⟨h4.up, fun i hi => by simp at hi⟩, h6⟩
section
variable {n : Nd} {key val : ByteArray}
/-- the cells ahead and behind -/
theorem Lf.parts (h : Lf n) (key : ByteArray) : (∀ c ∈ n.cells.take (plc n.cells key), lt c.key key = true) ∧ (∀ c ∈ n.cells.drop (n.to key), lt key c.key = true) ∧ (n.found key = true → ∃ v, n.cells = n.cells.take (plc n.cells key) ++ (⟨key, v⟩ :: n.cells.drop (n.to key))) ∧ (n.found key = false → n.cells = n.cells.take (plc n.cells key) ++ n.cells.drop (n.to key)) := by
  have hup := h.ord.up
  have hA : ∀ c ∈ n.cells.take (plc n.cells key), lt c.key key = true := fun c hc => by
    obtain ⟨i, hi, rfl⟩ := List.mem_iff_getElem.1 hc
    rw [List.length_take] at hi
    rw [List.getElem_take]
    exact plc_below (by omega) (by omega)
  have hD : ∀ i (hi : i < n.cells.length), plc n.cells key ≤ i → lt n.cells[i].key key = false := fun i hi h1 => plc_above hup h1 hi
  cases hf : n.found key
  · have hto : n.to key = plc n.cells key := by unfold Nd.to; rw [hf]; rfl
    have hno : ¬ ∃ h : plc n.cells key < n.cells.length, n.cells[plc n.cells key].key = key := of_decide_eq_false hf
    refine ⟨hA, fun c hc => ?_, fun h => (by cases h), fun _ => (by rw [hto, List.take_append_drop])⟩
    rw [hto] at hc
    obtain ⟨i, hi, rfl⟩ := List.mem_iff_getElem.1 hc
    rw [List.length_drop] at hi
    rw [List.getElem_drop]
    have h1 := hD (plc n.cells key + i) (by omega) (by omega)
    cases h2 : lt key (n.cells[plc n.cells key + i]'(by omega)).key
    · have he := lt_total h1 h2
      rcases Nat.eq_zero_or_pos i with rfl | hp
      · exact absurd ⟨by omega, he⟩ hno
      · have h3 := List.pairwise_iff_getElem.1 h.ord (plc n.cells key) (plc n.cells key + i) (by omega) (by omega) (by omega)
        rw [he] at h3
        rw [hD (plc n.cells key) (by omega) (Nat.le_refl _)] at h3
        cases h3
    · rfl
  · have hto : n.to key = plc n.cells key + 1 := by unfold Nd.to; rw [hf]; rfl
    obtain ⟨hp, hk⟩ := Nd.found_lt hf
    refine ⟨hA, fun c hc => ?_, fun _ => ⟨n.cells[plc n.cells key].val, ?_⟩, fun h => (by cases h)⟩
    · rw [hto] at hc
      obtain ⟨i, hi, rfl⟩ := List.mem_iff_getElem.1 hc
      rw [List.length_drop] at hi
      rw [List.getElem_drop]
      have h3 := List.pairwise_iff_getElem.1 h.ord (plc n.cells key) (plc n.cells key + 1 + i) (by omega) (by omega) (by omega)
      rw [hk] at h3
      exact h3
    · rw [hto]
      have e : ∀ c : Cl, c.key = key → (⟨key, c.val⟩ : Cl) = c := by
        rintro ⟨a, b⟩ rfl
        rfl
      rw [e _ hk, ← List.drop_eq_getElem_cons hp, List.take_append_drop]
/-- without the key -/
def offk (l : List Cl) (key : ByteArray) : List Cl := l.filter fun c => decide (c.key ≠ key)
theorem off_same {l : List Cl} (h : ∀ c ∈ l, c.key ≠ key) : offk l key = l := List.filter_eq_self.2 fun c hc => decide_eq_true (h c hc)
theorem Lf.off (h : Lf n) (key : ByteArray) : offk n.cells key = n.cells.take (plc n.cells key) ++ n.cells.drop (n.to key) := by
  obtain ⟨hA, hE, h1, h2⟩ := h.parts key
  have e1 : offk (n.cells.take (plc n.cells key)) key = n.cells.take (plc n.cells key) := off_same fun c hc => lt_ne (hA c hc)
  have e2 : offk (n.cells.drop (n.to key)) key = n.cells.drop (n.to key) := off_same fun c hc => (lt_ne (hE c hc)).symm
  cases hf : n.found key
  · have := h2 hf
    conv => lhs; rw [this]
    unfold offk at *
    rw [List.filter_append, e1, e2]
  · obtain ⟨v, hv⟩ := h1 hf
    conv => lhs; rw [hv]
    unfold offk at *
    rw [List.filter_append, List.filter_cons, if_neg (by simp), e1, e2]
theorem Lf.there (h : Lf n) (key : ByteArray) : n.found key = true ↔ ∃ c ∈ n.cells, c.key = key := by
  obtain ⟨hA, hE, h1, h2⟩ := h.parts key
  constructor
  · intro hf
    obtain ⟨hp, hk⟩ := Nd.found_lt hf
    exact ⟨_, List.getElem_mem hp, hk⟩
  · rintro ⟨c, hc, hk⟩
    cases hf : n.found key
    · rw [h2 hf] at hc
      rcases List.mem_append.1 hc with hc | hc
      · exact absurd hk (lt_ne (hA c hc))
      · exact absurd hk (lt_ne (hE c hc)).symm
    · rfl
theorem Lf.take_cells (h : Lf n) (hf : n.found key = true) : (n.take key).cells = offk n.cells key := by
  have hto : n.to key = plc n.cells key + 1 := by unfold Nd.to; rw [hf]; rfl
  rw [h.off key, hto]
  rfl
theorem sum_filter_le (p : Cl → Bool) : ∀ l : List Cl, ((l.filter p).map Cl.sz).sum ≤ (l.map Cl.sz).sum
  | [] => Nat.le_refl _
  | c :: l => by
    have := sum_filter_le p l
    rw [List.filter_cons]
    split
    · simp only [List.map_cons, List.sum_cons]; omega
    · simp only [List.map_cons, List.sum_cons]; omega
theorem Lf.take (h : Lf n) (hf : n.found key = true) : Lf (n.take key) := by
  have e := h.take_cells hf
  refine ⟨rfl, rfl, rfl, by rw [e]; exact List.Pairwise.filter _ h.ord, fun c hc => ?_, ?_⟩
  · rw [e] at hc
    exact h.ok c (List.mem_filter.1 hc).1
  · rw [e]
    have := sum_filter_le (fun c => decide (c.key ≠ key)) n.cells
    have h2 := h.size
    show 3 + (((n.cells.filter fun c => decide (c.key ≠ key))).map Cl.sz).sum ≤ 1992
    omega
theorem Lf.put_ord (h : Lf n) (key val : ByteArray) : Ord (n.put key val).cells := by
  obtain ⟨hA, hE, _, _⟩ := h.parts key
  show List.Pairwise _ (n.cells.take (plc n.cells key) ++ (⟨key, val⟩ :: n.cells.drop (n.to key)))
  refine List.pairwise_append.2 ⟨List.Pairwise.sublist (List.take_sublist _ _) h.ord, List.pairwise_cons.2 ⟨fun c hc => hE c hc, List.Pairwise.sublist (List.drop_sublist _ _) h.ord⟩, fun a ha b hb => ?_⟩
  rcases List.mem_cons.1 hb with rfl | hb
  · exact hA a ha
  · exact lt_trans (hA a ha) (hE b hb)
theorem Lf.put_perm (h : Lf n) (key val : ByteArray) : (n.put key val).cells.Perm (offk n.cells key ++ [(⟨key, val⟩ : Cl)]) := by
  rw [h.off key]
  show (n.cells.take (plc n.cells key) ++ (⟨key, val⟩ :: n.cells.drop (n.to key))).Perm _
  rw [List.append_assoc]
  exact List.Perm.append_left _ (List.perm_append_singleton _ _).symm
theorem sum_perm {a b : List Cl} (h : a.Perm b) : (a.map Cl.sz).sum = (b.map Cl.sz).sum := (h.map Cl.sz).sum_nat
theorem off_perm {a b : List Cl} (h : a.Perm b) (key : ByteArray) : (offk a key).Perm (offk b key) := h.filter _
/-- what a Put comes to, told of a list that holds the same -/
theorem Lf.put_ok (h : Lf n) {held : List Cl} (hp : held.Perm n.cells) (hk : 1 ≤ key.size) (hs : key.size + val.size ≤ 320) (hz : 3 + ((offk held key ++ [(⟨key, val⟩ : Cl)]).map Cl.sz).sum ≤ 1992) : Lf (n.put key val) ∧ (offk held key ++ [(⟨key, val⟩ : Cl)]).Perm (n.put key val).cells := by
  have h1 := h.put_perm key val
  have h2 : (offk held key ++ [(⟨key, val⟩ : Cl)]).Perm (n.put key val).cells := ((off_perm hp key).append_right _).trans h1.symm
  refine ⟨⟨rfl, rfl, rfl, h.put_ord key val, fun c hc => ?_, by rw [← sum_perm h2]; exact hz⟩, h2⟩
  rcases List.mem_append.1 (h1.mem_iff.1 hc) with hc | hc
  · exact h.ok c (List.mem_filter.1 hc).1
  · rw [List.mem_singleton.1 hc]
    exact ⟨hk, hs⟩
theorem Lf.put_bad (h : Lf n) {held : List Cl} (hp : held.Perm n.cells) (hb : 320 < key.size + val.size ∨ 1992 < 3 + ((offk held key ++ [(⟨key, val⟩ : Cl)]).map Cl.sz).sum) : (n.put key val).check = 82 := by
  have h1 := h.put_perm key val
  have h2 : (offk held key ++ [(⟨key, val⟩ : Cl)]).Perm (n.put key val).cells := ((off_perm hp key).append_right _).trans h1.symm
  unfold Nd.check
  rw [if_neg (fun hx => hx ⟨rfl, rfl⟩)]
  by_cases hsm : (n.put key val).Small
  · rw [if_neg (fun hx => hx hsm), if_neg (fun hx => hx ⟨(h.put_ord key val).up, fun i hi => by simp [Nd.put] at hi⟩)]
    rcases hb with hb | hb
    · have := (hsm.1 ⟨key, val⟩ (h2.mem_iff.1 (List.mem_append_right _ (List.mem_singleton.2 rfl)))).2
      have : key.size + val.size ≤ 320 := this
      omega
    · rw [if_pos]
      show 1992 < 3 + ((n.put key val).cells.map Cl.sz).sum
      rw [← sum_perm h2]
      exact hb
  · rw [if_pos hsm]
/-- a cell that is held is found -/
theorem Lf.find (h : Lf n) {c : Cl} (hc : c ∈ n.cells) : n.found c.key = true ∧ ∃ hp : plc n.cells c.key < n.cells.length, n.cells[plc n.cells c.key] = c ∧ (0 < plc n.cells c.key → lt (n.cells[plc n.cells c.key - 1]'(by omega)).key c.key = true) := by
  have hf := (h.there c.key).2 ⟨c, hc, rfl⟩
  obtain ⟨hp, hk⟩ := Nd.found_lt hf
  refine ⟨hf, hp, ?_, fun h0 => plc_below (by omega) (by omega)⟩
  obtain ⟨i, hi, hic⟩ := List.mem_iff_getElem.1 hc
  rcases Nat.lt_trichotomy i (plc n.cells c.key) with h1 | h1 | h1
  · have := List.pairwise_iff_getElem.1 h.ord i _ hi hp h1
    rw [hic, hk, lt_irrefl] at this
    cases this
  · subst h1; exact hic
  · have := List.pairwise_iff_getElem.1 h.ord _ i hp hi h1
    rw [hic, hk, lt_irrefl] at this
    cases this
end
end Go.Proofs.Ytppmpomfihalfaa
