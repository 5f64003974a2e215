/- The journal: what a header lists is read back. Of no program but for names. -/
import Derived.Test.YtfdfbjijomepgaaDoorJm
namespace Go.Proofs.YtfdfbjijomepgaaDoor
open Go.RowKit Go.Lib

theorem ofNat_toNat (y : Nat) (h : y < 256) : (UInt8.ofNat y).toNat = y := by simp; omega
theorem dg_fwd (rest : List UInt8) : ∀ (f i v y : Nat), i + f = 9 → y < 2 * 128 ^ f → (0 < i → 0 < y) → dg (uintB f y ++ rest) i v = (v + y * 128 ^ i, i + (uintB f y).length, 0) := by
  intro f
  induction f with
  | zero =>
    intro i v y hi hy h0
    have hy1 : y < 2 := by simpa using hy
    have := h0 (by omega)
    have e : (UInt8.ofNat y).toNat = y := ofNat_toNat y (by omega)
    rw [uintB, List.singleton_append, dg, e, if_neg (by omega), if_neg (by omega), if_neg (by omega), if_neg (by omega), Nat.mod_eq_of_lt (by omega)]
    rfl
  | succ f ih =>
    intro i v y hi hy h0
    rw [uintB]
    by_cases h : y < 128
    · have e : (UInt8.ofNat y).toNat = y := ofNat_toNat y (by omega)
      rw [if_pos h, List.singleton_append, dg, e, if_neg (by omega), if_neg (by omega), if_neg (by omega), if_neg (by omega), Nat.mod_eq_of_lt (by omega)]
      rfl
    · have e : (UInt8.ofNat (y % 128 + 128)).toNat = y % 128 + 128 := ofNat_toNat _ (by omega)
      rw [if_neg h, List.cons_append, dg, e, if_neg (by omega), if_neg (by omega), if_pos (by omega)]
      rw [ih (i + 1) _ (y / 128) (by omega) (by rw [Nat.pow_succ] at hy; omega) (by omega)]
      rw [show (y % 128 + 128) % 128 = y % 128 from by omega, Nat.pow_succ, List.length_cons]
      refine Prod.ext ?_ (Prod.ext ?_ rfl)
      · show v + y % 128 * 128 ^ i + y / 128 * (128 ^ i * 128) = v + y * 128 ^ i
        have e2 : y = y % 128 + 128 * (y / 128) := by omega
        conv => rhs; rw [e2]
        rw [Nat.add_mul, Nat.mul_comm (128 ^ i) 128, ← Nat.mul_assoc, Nat.mul_comm (y / 128) 128]
        omega
      · show i + 1 + _ = i + (_ + 1)
        omega
section
variable {s : ByteArray} {p : Nat}
theorem drop_len (_h : p ≤ s.size) : (s.data.toList.drop p).length = s.size - p := by rw [List.length_drop, size_toList]
theorem uint_fwd {v most : Nat} {t : List UInt8} (h : s.data.toList.drop p = uintB 9 v ++ t) (hv : v < 18446744073709551616) (hm : v ≤ most) : uintS s p 0 most = (v, p + (uintB 9 v).length, 0) := by
  unfold uintS
  rw [if_neg (by simp), h, dg_fwd t 9 0 0 v (by omega) (by omega) (by omega)]
  simp only [Nat.zero_add, Nat.pow_zero, Nat.mul_one, ne_eq, not_true_eq_false, if_false]
  rw [if_neg (by omega)]
theorem raw_fwd {u t : List UInt8} (hp : p ≤ s.size) (h : s.data.toList.drop p = u ++ t) : rawS s p 0 u.length = (⟨u.toArray⟩, p + u.length, 0) := by
  have hl := drop_len hp
  rw [h, List.length_append] at hl
  unfold rawS
  rw [if_neg (by simp), if_neg (by omega), if_neg (by omega), Int.toNat_natCast]
  refine Prod.ext ?_ rfl
  show s.extract p (p + u.length) = ⟨u.toArray⟩
  apply ByteArray.ext
  apply Array.toList_inj.1
  rw [extract_data, h, show p + u.length - p = u.length from by omega]
  simp
theorem fix_fwd {v n : Nat} {t : List UInt8} (hp : p ≤ s.size) (h : s.data.toList.drop p = fixB v n ++ t) (h1 : 1 ≤ n) (h8 : n ≤ 8) (hv : v < 256 ^ n) : fixS s p 0 n = (v, p + n, 0) := by
  have hr := raw_fwd hp h
  rw [fixB_length] at hr
  unfold fixS
  rw [if_neg (by omega), hr]
  simp only
  rw [numB_fixB, Nat.mod_eq_of_lt hv]
end
def bare (p : Pg) : Pg := ⟨p.kind, p.num, 0, ⟨#[]⟩⟩
theorem hdr_cons (p : Pg) (l : List Pg) : hdr (p :: l) = [UInt8.ofNat p.kind] ++ fixB p.num 4 ++ hdr l := by simp [hdr]
theorem hdr_drop (l : List Pg) : ∀ k, k ≤ l.length → (hdr l).drop (5 * k) = hdr (l.drop k) := by
  induction l with
  | nil => intro k hk; obtain rfl : k = 0 := Nat.le_zero.1 hk; rfl
  | cons p l ih =>
    intro k hk
    cases k with
    | zero => rfl
    | succ k =>
      have h0 : hdr (p :: l) = ([UInt8.ofNat p.kind] ++ fixB p.num 4) ++ hdr l := by simp [hdr]
      have h5 : ([UInt8.ofNat p.kind] ++ fixB p.num 4).length = 5 := by rw [List.length_append, fixB_length]; rfl
      rw [h0, List.drop_append, h5, List.drop_of_length_le (by rw [h5]; omega), List.nil_append, show 5 * (k + 1) - 5 = 5 * k from by omega, ih k (by simpa using hk)]
      rfl
theorem listK_back (l : List Pg) (hf : ∀ p ∈ l, p.Fit) (s : ByteArray) (p0 : Nat) (hs : s.data.toList.drop p0 = hdr l) (hp0 : p0 + 5 * l.length = s.size) : ∀ k, k ≤ l.length → listK s l.length p0 0 k = ((l.take k).map bare ++ List.replicate (l.length - k) Pg.zero, p0 + 5 * k, 0)
  | 0, _ => by simp [listK]
  | k + 1, hk => by
    have ih := listK_back l hf s p0 hs hp0 k (by omega)
    have hkl : k < l.length := by omega
    have hfit := hf l[k] (List.getElem_mem hkl)
    have hd : s.data.toList.drop (p0 + 5 * k) = [UInt8.ofNat l[k].kind] ++ (fixB l[k].num 4 ++ hdr (l.drop (k + 1))) := by
      rw [← List.drop_drop, hs, hdr_drop l k (by omega), List.drop_eq_getElem_cons hkl, hdr_cons, List.append_assoc]
    have hb := fix_fwd (s := s) (p := p0 + 5 * k) (v := l[k].kind) (n := 1) (t := fixB l[k].num 4 ++ hdr (l.drop (k + 1))) (by omega) (by rw [hd]; simp [fixB]) (by decide) (by decide) (by simpa using hfit.kind)
    have hd2 : s.data.toList.drop (p0 + 5 * k + 1) = fixB l[k].num 4 ++ hdr (l.drop (k + 1)) := by
      rw [← List.drop_drop, hd]
      rfl
    have hv := fix_fwd (s := s) (p := p0 + 5 * k + 1) (v := l[k].num) (n := 4) (t := hdr (l.drop (k + 1))) (by omega) hd2 (by decide) (by decide) (by simpa using hfit.num)
    have hb' : fixS s (p0 + 5 * k) 0 1 = (l[k].kind, p0 + 5 * k + 1, 0) := hb
    have hv' : fixS s (p0 + 5 * k + 1) 0 4 = (l[k].num, p0 + 5 * k + 1 + 4, 0) := hv
    simp only [listK, ih, hb', hv']
    have hkd : l[k].kind % 256 = l[k].kind := Nat.mod_eq_of_lt hfit.kind
    refine Prod.ext ?_ (Prod.ext (by show p0 + 5 * k + 1 + 4 = p0 + 5 * (k + 1); omega) rfl)
    show ((l.take k).map bare ++ List.replicate (l.length - k) Pg.zero).set k ⟨l[k].kind % 256, l[k].num, 0, ⟨#[]⟩⟩ = _
    rw [hkd, List.take_succ_eq_append_getElem hkl, List.map_append, List.append_assoc]
    have hlen : ((l.take k).map bare).length = k := by rw [List.length_map, List.length_take]; omega
    rw [List.set_append_right _ _ (by omega), hlen, Nat.sub_self, show l.length - k = (l.length - (k + 1)) + 1 from by omega, List.replicate_succ, List.set_cons_zero]
    rfl
theorem ba_toList (l : List UInt8) : (⟨l.toArray⟩ : ByteArray).data.toList = l := rfl
theorem ba_size (l : List UInt8) : (⟨l.toArray⟩ : ByteArray).size = l.length := by simp [ByteArray.size]
/-- a header's body lists the batch that it was made of -/
theorem listed_back (l : List Pg) (hf : ∀ p ∈ l, p.Fit) (r : Nat) (hr : l.length ≤ r) (hn : l.length ≤ 4096) : listed ⟨(listB l).toArray⟩ r = (l.map bare, (listB l).length, 0) := by
  have hu := uint_fwd (s := ⟨(listB l).toArray⟩) (p := 0) (v := l.length) (most := r) (t := hdr l) (by rw [ba_toList, List.drop_zero, listB]) (by omega) hr
  simp only [listed, hu]
  rw [Nat.zero_add]
  have hb := listK_back l hf ⟨(listB l).toArray⟩ (uintB 9 l.length).length (by rw [ba_toList, listB, List.drop_left]) (by rw [ba_size, listB, List.length_append, hdr_len]) l.length (Nat.le_refl _)
  rw [hb, List.take_length, Nat.sub_self, List.replicate_zero, List.append_nil, listB, List.length_append, hdr_len]
theorem rises_bare (l : List Pg) : rises (l.map bare) ↔ rises l := by
  unfold rises risen
  simp only [List.length_map, List.getElem_map, bare]
theorem listOk_back (l : List Pg) (hf : ∀ p ∈ l, p.Fit) (r : Nat) (hr : l.length ≤ r) (hn : l.length ≤ 4096) (hri : rises l) : listOk ⟨(listB l).toArray⟩ r := by
  unfold listOk
  rw [listed_back l hf r hr hn]
  refine ⟨?_, (rises_bare l).2 hri⟩
  show endE (⟨(listB l).toArray⟩ : ByteArray).size (listB l).length 0 = 0
  rw [ba_size, endE, if_pos rfl, if_neg (by omega)]
end Go.Proofs.YtfdfbjijomepgaaDoor
