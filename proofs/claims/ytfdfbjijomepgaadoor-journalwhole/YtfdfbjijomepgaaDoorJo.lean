/- The journal: whole, or not at all: pages of which a front was written. Of no program but for names. -/
import Derived.Test.YtfdfbjijomepgaaDoorJn
import Derived.Test.YtfdfbjijomepgaaDoorJg
namespace Go.Proofs.YtfdfbjijomepgaaDoor
open Go.RowKit

def mix (a b : List UInt8) (m : Nat) : List UInt8 := a.take m ++ b.drop m
section
variable {a b : List UInt8} {m : Nat}
theorem mix_zero : mix a b 0 = b := by simp [mix]
theorem mix_all (ha : a.length = 1024) (hb : b.length = 1024) (hm : 1024 ≤ m) : mix a b m = a := by
  rw [mix, List.take_of_length_le (by omega), List.drop_of_length_le (by omega), List.append_nil]
theorem mix_len (ha : a.length = 1024) (hb : b.length = 1024) : (mix a b m).length = 1024 := by
  rw [mix, List.length_append, List.length_take, List.length_drop]
  omega
theorem hd8_mix (ha : a.length = 1024) (hm : 8 ≤ m) : hd8 (mix a b m) = hd8 a := by
  have h1 : (a.take m).length = min m 1024 := by rw [List.length_take, ha]
  rw [hd8, hd8, mix, List.take_append_of_le_length (by omega), List.take_take, Nat.min_eq_left hm]
theorem tl8_mix (ha : a.length = 1024) (hm : m ≤ 1016) : tl8 (mix a b m) = tl8 b := by
  have h1 : (a.take m).length = m := by rw [List.length_take, ha]; omega
  rw [tl8, tl8, mix, List.drop_append, h1, List.drop_of_length_le (by omega), List.nil_append, List.drop_drop]
  congr 2
  omega
end
theorem hd8_enc (p : Pg) (hs : p.body.size ≤ 996) (hr : p.ser < 18446744073709551616) : hd8 p.enc = p.ser ∧ tl8 p.enc = p.ser := by
  obtain ⟨h1, h2⟩ := Pg.front8 p hs
  rw [hd8, tl8, h1, h2, numB_fixB, Nat.mod_eq_of_lt hr]
  exact ⟨rfl, rfl⟩
/-- what is decoded is nothing, or its serial stands at both ends -/
theorem dec_cases (l : List UInt8) (n : Nat) : (dec l n).1 = Pg.zero ∨ (hd8 l = (dec l n).1.ser ∧ tl8 l = (dec l n).1.ser) := by
  unfold dec
  split
  · exact .inl rfl
  · split
    · exact .inl rfl
    · split
      · rename_i h
        right
        have hm := Pg.may h.2.1
        have he := hd8_enc (claim ⟨l.toArray⟩) hm.2 (by omega)
        rw [h.2.2] at he
        exact he
      · exact .inl rfl
theorem enc_len (p : Pg) (hs : p.body.size ≤ 996) : p.enc.length = 1024 := p.bytes_len hs _
/-- a page of which a front was written -/
theorem dec_mix (p : Pg) (hf : p.Fit) (hw : p.wrong = 0) (b : List UInt8) (hb : b.length = 1024) (m : Nat) (hm : m ≤ 1024) (h8 : m % 8 = 0) (ht : tl8 b ≠ p.ser) :
    (m = 0 ∧ mix p.enc b m = b) ∨ (m = 1024 ∧ mix p.enc b m = p.enc ∧ (dec (mix p.enc b m) p.num).1 = p) ∨ (m ≠ 0 ∧ hd8 (mix p.enc b m) = p.ser ∧ tl8 (mix p.enc b m) = tl8 b ∧ ∀ n, (dec (mix p.enc b m) n).1 = Pg.zero) := by
  have hy := Pg.may hw
  have hl := enc_len p hy.2
  have he := hd8_enc p hy.2 (by omega)
  by_cases h0 : m = 0
  · subst h0
    exact .inl ⟨rfl, mix_zero⟩
  · by_cases h1 : m = 1024
    · subst h1
      have e := mix_all hl hb (Nat.le_refl 1024)
      exact .inr (.inl ⟨rfl, e, by rw [e, dec_enc p hf hw]⟩)
    · have e1 : hd8 (mix p.enc b m) = p.ser := (hd8_mix hl (by omega)).trans he.1
      have e2 := tl8_mix (a := p.enc) (b := b) hl (m := m) (by omega)
      refine .inr (.inr ⟨h0, e1, e2, fun n => ?_⟩)
      rcases dec_cases (mix p.enc b m) n with h | ⟨h2, h3⟩
      · exact h
      · exact absurd (by rw [← e2, h3, ← h2, e1]) ht
theorem topK_ge (pg : Nat → List UInt8) (f : Nat) : ∀ c i, i < c → hd8 (pg (f + i)) ≤ topK pg f c ∧ tl8 (pg (f + i)) ≤ topK pg f c
  | 0, _, h => absurd h (Nat.not_lt_zero _)
  | c + 1, i, h => by
    rw [topK]
    rcases Nat.lt_or_ge i c with h' | h'
    · have := topK_ge pg f c i h'
      omega
    · obtain rfl : i = c := by omega
      omega
theorem topK_same {pg pg' : Nat → List UInt8} {f : Nat} : ∀ c, (∀ i, i < c → pg' (f + i) = pg (f + i)) → topK pg' f c = topK pg f c
  | 0, _ => rfl
  | c + 1, h => by rw [topK, topK, topK_same c (fun i hi => h i (by omega)), h c (by omega)]
theorem topK_le {pg : Nat → List UInt8} {f s : Nat} : ∀ c, (∀ i, i < c → hd8 (pg (f + i)) ≤ s ∧ tl8 (pg (f + i)) ≤ s) → topK pg f c ≤ s
  | 0, _ => Nat.zero_le _
  | c + 1, h => by
    have h1 := topK_le c (fun i hi => h i (by omega))
    have h2 := h c (by omega)
    rw [topK]
    omega
/-- a batch laid down over what lay there, of each page a front -/
structure Stp (pg pg' : Nat → List UInt8) (f c s : Nat) (l : List Pg) (ms : Nat → Nat) : Prop where
  hdr : pg' f = mix (hdrP f s l).enc (pg f) (ms 0)
  slot : ∀ q (hq : q < l.length), pg' (f + 1 + q) = mix (slotP f s q l[q]).enc (pg (f + 1 + q)) (ms (q + 1))
  rest : ∀ q, l.length ≤ q → q + 1 < c → pg' (f + 1 + q) = pg (f + 1 + q)
  m8 : ∀ i, ms i % 8 = 0 ∧ ms i ≤ 1024
structure Pre (pg : Nat → List UInt8) (f c s : Nat) (l : List Pg) : Prop where
  len : ∀ i, i < c → (pg (f + i)).length = 1024
  top : topK pg f c < s
  ok : wrongOk s l (roomN c : Nat)
  fit : ∀ p ∈ l, p.Fit
  c1 : 1 ≤ c
  fc : f + c ≤ 4096
section
variable {pg pg' : Nat → List UInt8} {f c s : Nat} {l : List Pg} {ms : Nat → Nat}
theorem Pre.n198 (h : Pre pg f c s l) : l.length ≤ roomN c ∧ l.length ≤ 198 ∧ l.length + 1 ≤ c := by
  have h1 := h.ok.2.2.1
  have h2 := h.c1
  have h3 : roomN c ≤ 198 ∧ roomN c + 1 ≤ c := by unfold roomN; omega
  omega
theorem Pre.hdrFit (h : Pre pg f c s l) : (hdrP f s l).Fit ∧ (hdrP f s l).wrong = 0 := by
  have h1 := h.n198
  have h2 := h.ok.2.1
  have h3 := h.fc
  refine ⟨⟨by show 74 < 256; decide, by show f < 4294967296; omega, by show s < 18446744073709551616; omega⟩, Pg.wrong_ok h2 ?_⟩
  show (⟨(listB l).toArray⟩ : ByteArray).size ≤ 996
  rw [ba_size]
  exact listB_len l h1.2.1
theorem Pre.slotFit (h : Pre pg f c s l) (q : Nat) (hq : q < l.length) : (slotP f s q l[q]).Fit ∧ (slotP f s q l[q]).wrong = 0 := by
  have h1 := h.n198
  have h2 := h.ok.2.1
  have h3 := h.fc
  exact ⟨⟨by show 67 < 256; decide, by show f + 1 + q < 4294967296; omega, by show s < 18446744073709551616; omega⟩, Pg.wrong_ok h2 (h.ok.2.2.2.2 l[q] (List.getElem_mem hq))⟩
theorem Pre.tail (h : Pre pg f c s l) (i : Nat) (hi : i < c) : tl8 (pg (f + i)) ≠ s ∧ hd8 (pg (f + i)) ≠ s := by
  have h1 := topK_ge pg f c i hi
  have h2 := h.top
  omega
theorem Pre.oldSer (h : Pre pg f c s l) (i : Nat) (hi : i < c) (n : Nat) : (dec (pg (f + i)) n).1.ser ≠ s := by
  have h2 := h.top
  rcases dec_cases (pg (f + i)) n with e | ⟨e, _⟩
  · rw [e]
    show 0 ≠ s
    omega
  · rw [← e]
    exact (h.tail i hi).2
/-- the header behind it -/
theorem Stp.hd (h : Pre pg f c s l) (k : Stp pg pg' f c s l ms) : (ms 0 = 0 ∧ pg' f = pg f) ∨ (ms 0 = 1024 ∧ pg' f = (hdrP f s l).enc ∧ hdrOf pg' f = hdrP f s l) ∨ (ms 0 ≠ 0 ∧ hd8 (pg' f) = s ∧ tl8 (pg' f) = tl8 (pg f) ∧ hdrOf pg' f = Pg.zero) := by
  have h0 := h.c1
  have ht := (h.tail 0 (by omega)).1
  have hl := h.len 0 (by omega)
  rw [Nat.add_zero] at ht hl
  have hw := h.hdrFit
  have := dec_mix (hdrP f s l) hw.1 hw.2 (pg f) hl (ms 0) (k.m8 0).2 (k.m8 0).1 ht
  rw [← k.hdr] at this
  rcases this with h1 | ⟨h1, h2, h3⟩ | ⟨h1, h2, h3, h4⟩
  · exact .inl h1
  · exact .inr (.inl ⟨h1, h2, h3⟩)
  · exact .inr (.inr ⟨h1, h2, h3, h4 _⟩)
theorem Stp.sl (h : Pre pg f c s l) (k : Stp pg pg' f c s l ms) (q : Nat) (hq : q < l.length) : (ms (q + 1) = 0 ∧ pg' (f + 1 + q) = pg (f + 1 + q)) ∨ (ms (q + 1) = 1024 ∧ pg' (f + 1 + q) = (slotP f s q l[q]).enc ∧ (dec (pg' (f + 1 + q)) (f + 1 + q)).1 = slotP f s q l[q]) ∨ (ms (q + 1) ≠ 0 ∧ hd8 (pg' (f + 1 + q)) = s ∧ tl8 (pg' (f + 1 + q)) = tl8 (pg (f + 1 + q)) ∧ (dec (pg' (f + 1 + q)) (f + 1 + q)).1 = Pg.zero) := by
  have h0 := h.n198
  have e : f + 1 + q = f + (q + 1) := by omega
  have ht := (h.tail (q + 1) (by omega)).1
  have hl := h.len (q + 1) (by omega)
  rw [← e] at ht hl
  have hw := h.slotFit q hq
  have := dec_mix (slotP f s q l[q]) hw.1 hw.2 (pg (f + 1 + q)) hl (ms (q + 1)) (k.m8 _).2 (k.m8 _).1 ht
  rw [← k.slot q hq] at this
  rcases this with h1 | ⟨h1, h2, h3⟩ | ⟨h1, h2, h3, h4⟩
  · exact .inl h1
  · exact .inr (.inl ⟨h1, h2, h3⟩)
  · exact .inr (.inr ⟨h1, h2, h3, h4 _⟩)
theorem slotD_of (pg : Nat → List UInt8) (f c q : Nat) (hq : q < roomN c) : slotD (slotsOf pg f c) q = (dec (pg (f + 1 + q)) (f + 1 + q)).1 := by
  rw [slotD, List.getD_eq_getElem?_getD, slotsOf, List.getElem?_map, List.getElem?_range hq]
  rfl
theorem fillK_congr {L a b : List Pg} : ∀ k, (∀ i, i < k → slotD a i = slotD b i) → fillK L a k = fillK L b k
  | 0, _ => rfl
  | k + 1, h => by rw [fillK, fillK, fillK_congr k (fun i hi => h i (by omega)), h k (by omega)]
/-- the batch as it is found -/
def withSer (s : Nat) (l : List Pg) : List Pg := l.map fun p => ⟨p.kind, p.num, s, p.body⟩
theorem fillK_new (l slots : List Pg) (s : Nat) (h : ∀ i (hi : i < l.length), (slotD slots i).ser = s ∧ (slotD slots i).body = l[i].body) : ∀ k, k ≤ l.length → fillK (l.map bare) slots k = withSer s (l.take k) ++ (l.drop k).map bare
  | 0, _ => by simp [fillK, withSer]
  | k + 1, hk => by
    have hkl : k < l.length := by omega
    have ih := fillK_new l slots s h k (by omega)
    have hg : (l.map bare).getD k Pg.zero = bare l[k] := by rw [List.getD_eq_getElem?_getD, List.getElem?_map, List.getElem?_eq_getElem hkl]; rfl
    have hlen : (withSer s (l.take k)).length = k := by rw [withSer, List.length_map, List.length_take]; omega
    rw [fillK, ih, hg, (h k hkl).1, (h k hkl).2, List.set_append_right _ _ (by omega), hlen, Nat.sub_self, List.drop_eq_getElem_cons hkl, List.map_cons, List.set_cons_zero, List.take_succ_eq_append_getElem hkl]
    simp only [withSer, List.map_append, List.append_assoc, List.map_cons, List.map_nil, List.cons_append, List.nil_append]
    rfl
theorem fillK_all (l slots : List Pg) (s : Nat) (h : ∀ i (hi : i < l.length), (slotD slots i).ser = s ∧ (slotD slots i).body = l[i].body) : fillK (l.map bare) slots l.length = withSer s l := by
  rw [fillK_new l slots s h l.length (Nat.le_refl _)]
  simp
/-- a new header, and all its slots -/
theorem batch_new (h : Pre pg f c s l) (hh : hdrOf pg' f = hdrP f s l) (hs : ∀ i (hi : i < l.length), (dec (pg' (f + 1 + i)) (f + 1 + i)).1 = slotP f s i l[i]) :
    batchOk (hdrOf pg' f) (slotsOf pg' f c) ∧ batchL (hdrOf pg' f) (slotsOf pg' f c) = withSer s l ∧ (hdrOf pg' f).ser = s := by
  have hn := h.n198
  have hlb := listed_back l h.fit (slotsOf pg' f c).length (by rw [slotsOf_len]; exact hn.1) (by omega)
  have hb : (hdrP f s l).body = ⟨(listB l).toArray⟩ := rfl
  have hsl : ∀ i (hi : i < l.length), slotD (slotsOf pg' f c) i = slotP f s i l[i] := fun i hi => (slotD_of pg' f c i (by omega)).trans (hs i hi)
  rw [hh]
  refine ⟨⟨rfl, ?_, ?_, fun i hi => ?_⟩, ?_, rfl⟩
  · show s ≠ 0
    have := h.top
    omega
  · rw [hb]
    exact listOk_back l h.fit _ (by rw [slotsOf_len]; exact hn.1) (by omega) h.ok.2.2.2.1
  · rw [hb, hlb, List.length_map] at hi
    rw [hsl i hi]
    exact ⟨rfl, rfl⟩
  · rw [batchL, hb, hlb, List.length_map]
    exact fillK_all l _ s fun i hi => by rw [hsl i hi]; exact ⟨rfl, rfl⟩
/-- whole, or not at all -/
theorem Stp.whole (h : Pre pg f c s l) (k : Stp pg pg' f c s l ms) (hb : batchOk (hdrOf pg' f) (slotsOf pg' f c)) :
    (batchL (hdrOf pg' f) (slotsOf pg' f c) = withSer s l ∧ (hdrOf pg' f).ser = s) ∨ (batchOk (hdrOf pg f) (slotsOf pg f c) ∧ batchL (hdrOf pg' f) (slotsOf pg' f c) = batchL (hdrOf pg f) (slotsOf pg f c) ∧ (hdrOf pg' f).ser = (hdrOf pg f).ser) := by
  have hn := h.n198
  have h0 := h.c1
  rcases k.hd h with ⟨_, h2⟩ | ⟨_, _, h3⟩ | ⟨_, _, _, h4⟩
  · right
    have hh : hdrOf pg' f = hdrOf pg f := by rw [hdrOf, hdrOf, h2]
    rw [hh] at hb ⊢
    have hlen : (slotsOf pg' f c).length = (slotsOf pg f c).length := by rw [slotsOf_len, slotsOf_len]
    have hser : (hdrOf pg f).ser ≠ s := by
      have := h.oldSer 0 (by omega) f
      rwa [Nat.add_zero] at this
    have hsame : ∀ i, i < (listed (hdrOf pg f).body (slotsOf pg f c).length).1.length → slotD (slotsOf pg' f c) i = slotD (slotsOf pg f c) i := fun i hi => by
      have hi2 : i < roomN c := by
        have := listed_len (hdrOf pg f).body (slotsOf pg f c).length
        rw [slotsOf_len] at this hi
        omega
      have hi3 : i + 1 < c := by unfold roomN at hi2; omega
      have hgood := hb.2.2.2 i (by rw [hlen]; exact hi)
      rw [slotD_of pg' f c i hi2] at hgood ⊢
      rw [slotD_of pg f c i hi2]
      by_cases hil : i < l.length
      · rcases k.sl h i hil with ⟨_, e⟩ | ⟨_, _, e⟩ | ⟨_, _, _, e⟩
        · rw [e]
        · rw [e] at hgood
          exact absurd hgood.2.symm hser
        · rw [e] at hgood
          exact absurd hgood.1 (by decide)
      · rw [k.rest i (by omega) hi3]
    refine ⟨⟨hb.1, hb.2.1, by rw [← hlen]; exact hb.2.2.1, fun i hi => ?_⟩, ?_, rfl⟩
    · rw [← hsame i hi]
      exact hb.2.2.2 i (by rw [hlen]; exact hi)
    · rw [batchL, batchL, hlen]
      exact fillK_congr _ hsame
  · left
    have hb2 : (hdrP f s l).body = ⟨(listB l).toArray⟩ := rfl
    have hlb := listed_back l h.fit (slotsOf pg' f c).length (by rw [slotsOf_len]; exact hn.1) (by omega)
    have hs : ∀ i (hi : i < l.length), (dec (pg' (f + 1 + i)) (f + 1 + i)).1 = slotP f s i l[i] := fun i hi => by
      have hgood := hb.2.2.2 i (by rw [h3, hb2, hlb, List.length_map]; exact hi)
      rw [slotD_of pg' f c i (by omega), h3] at hgood
      rcases k.sl h i hi with ⟨_, e⟩ | ⟨_, _, e⟩ | ⟨_, _, _, e⟩
      · rw [e] at hgood
        have h5 := h.oldSer (i + 1) (by omega) (f + 1 + i)
        rw [show f + (i + 1) = f + 1 + i from by omega] at h5
        exact absurd hgood.2 h5
      · exact e
      · rw [e] at hgood
        exact absurd hgood.1 (by decide)
    exact (batch_new h h3 hs).2
  · rw [h4] at hb
    exact absurd hb.1 (by decide)
/-- the greatest number that stands at an end -/
theorem Stp.tops (h : Pre pg f c s l) (k : Stp pg pg' f c s l ms) : topK pg' f c = s ∨ topK pg' f c = topK pg f c := by
  have hn := h.n198
  have h0 := h.c1
  have htop := h.top
  have hends : ∀ i, i < c → (pg' (f + i) = pg (f + i)) ∨ (hd8 (pg' (f + i)) = s ∧ tl8 (pg' (f + i)) ≤ s) := fun i hi => by
    have hold := topK_ge pg f c i hi
    cases i with
    | zero =>
      rw [Nat.add_zero] at hold ⊢
      have hw := h.hdrFit
      rcases k.hd h with ⟨_, e⟩ | ⟨_, e, _⟩ | ⟨_, e1, e2, _⟩
      · exact .inl e
      · right
        have := hd8_enc (hdrP f s l) (Pg.may hw.2).2 hw.1.ser
        rw [e, this.1, this.2]
        exact ⟨rfl, Nat.le_refl _⟩
      · right
        rw [e1, e2]
        exact ⟨rfl, by omega⟩
    | succ q =>
      rw [show f + (q + 1) = f + 1 + q from by omega] at hold ⊢
      by_cases hq : q < l.length
      · have hw := h.slotFit q hq
        rcases k.sl h q hq with ⟨_, e⟩ | ⟨_, e, _⟩ | ⟨_, e1, e2, _⟩
        · exact .inl e
        · right
          have := hd8_enc (slotP f s q l[q]) (Pg.may hw.2).2 hw.1.ser
          rw [e, this.1, this.2]
          exact ⟨rfl, Nat.le_refl _⟩
        · right
          rw [e1, e2]
          exact ⟨rfl, by omega⟩
      · exact .inl (k.rest q (by omega) (by omega))
  by_cases hall : ∀ i, i < c → pg' (f + i) = pg (f + i)
  · exact .inr (topK_same c hall)
  · left
    obtain ⟨i, hi⟩ := Classical.not_forall.1 hall
    obtain ⟨hic, hne⟩ := Classical.not_imp.1 hi
    have h1 : s ≤ topK pg' f c := by
      have := topK_ge pg' f c i hic
      rcases hends i hic with e | e
      · exact absurd e hne
      · omega
    have h2 : topK pg' f c ≤ s := topK_le c fun j hj => by
      rcases hends j hj with e | e
      · rw [e]
        have := topK_ge pg f c j hj
        omega
      · omega
    omega
/-- all of it -/
theorem Stp.full (h : Pre pg f c s l) (k : Stp pg pg' f c s l (fun _ => 1024)) : batchOk (hdrOf pg' f) (slotsOf pg' f c) ∧ batchL (hdrOf pg' f) (slotsOf pg' f c) = withSer s l ∧ (hdrOf pg' f).ser = s ∧ topK pg' f c = s := by
  have hh : hdrOf pg' f = hdrP f s l := by
    rcases k.hd h with ⟨e, _⟩ | ⟨_, _, e⟩ | ⟨_, e1, e2, _⟩
    · cases e
    · exact e
    · have hw := h.hdrFit
      have hy := (Pg.may hw.2).2
      have e : pg' f = (hdrP f s l).enc := by
        rw [k.hdr]
        have hl := h.len 0 (by have := h.c1; omega)
        rw [Nat.add_zero] at hl
        exact mix_all (enc_len _ hy) hl (Nat.le_refl _)
      rw [hdrOf, e]
      exact congrArg Prod.fst (dec_enc _ hw.1 hw.2)
  have hs : ∀ i (hi : i < l.length), pg' (f + 1 + i) = (slotP f s i l[i]).enc := fun i hi => by
    have hw := h.slotFit i hi
    have hl := h.len (i + 1) (by have := h.n198; omega)
    rw [show f + (i + 1) = f + 1 + i from by omega] at hl
    rw [k.slot i hi]
    exact mix_all (enc_len _ (Pg.may hw.2).2) hl (Nat.le_refl _)
  have hb := batch_new h hh (fun i hi => by
    have hw := h.slotFit i hi
    rw [hs i hi]
    exact congrArg Prod.fst (dec_enc (slotP f s i l[i]) hw.1 hw.2))
  refine ⟨hb.1, hb.2.1, hb.2.2, ?_⟩
  rcases k.tops h with e | e
  · exact e
  · exfalso
    have hw := h.hdrFit
    have hx : pg' f = (hdrP f s l).enc := by
      rw [k.hdr]
      have hl := h.len 0 (by have := h.c1; omega)
      rw [Nat.add_zero] at hl
      exact mix_all (enc_len _ (Pg.may hw.2).2) hl (Nat.le_refl _)
    have h1 := topK_ge pg' f c 0 (by have := h.c1; omega)
    rw [Nat.add_zero, hx, (hd8_enc (hdrP f s l) (Pg.may hw.2).2 hw.1.ser).1] at h1
    have h2 : (hdrP f s l).ser = s := rfl
    have := h.top
    omega
end
end Go.Proofs.YtfdfbjijomepgaaDoor
