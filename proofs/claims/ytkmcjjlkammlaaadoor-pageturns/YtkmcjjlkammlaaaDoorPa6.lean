/- A page's bytes with one byte turned: no page's bytes, and not blank. -/
import Derived.Test.YtkmcjjlkammlaaaDoorPq
namespace Go.Proofs.YtkmcjjlkammlaaaDoor
open Go.RowKit Go.Lib

theorem stn_inj (n a b : Nat) (ha : a < 2 ^ 32) (hb : b < 2 ^ 32) (h : Crc.stn n a = Crc.stn n b) : a = b := by
  apply Crc.eq_of_xor
  by_cases h0 : a ^^^ b = 0
  · exact h0
  · exact absurd (by rw [Crc.stn_xor, h, Nat.xor_self]) (Crc.stn_ne n _ (Nat.xor_lt_two_pow ha hb) h0)
theorem fold_inj (t : List UInt8) (a b : Nat) (ha : a < 2 ^ 32) (hb : b < 2 ^ 32) (h : Crc.fold t a = Crc.fold t b) : a = b := by
  have h1 := Crc.fold_lin t a b
  rw [h, Nat.xor_self] at h1
  apply Crc.eq_of_xor
  by_cases h0 : a ^^^ b = 0
  · exact h0
  · exact absurd h1.symm (Crc.stn_ne _ _ (Nat.xor_lt_two_pow ha hb) h0)
/-- one byte's turn is seen by the sum -/
theorem fold_one (s : List UInt8) (i : Nat) (hi : i < s.length) (x : UInt8) (c : Nat) (hc : c < 2 ^ 32) (h : Crc.fold (s.set i x) c = Crc.fold s c) : x = s[i] := by
  have e1 : s = s.take i ++ s[i] :: s.drop (i + 1) := by rw [List.getElem_cons_drop, List.take_append_drop]
  have e2 : s.set i x = s.take i ++ x :: s.drop (i + 1) := List.set_eq_take_append_cons_drop.trans (by rw [if_pos hi])
  have h' : Crc.fold (s.take i ++ x :: s.drop (i + 1)) c = Crc.fold (s.take i ++ s[i] :: s.drop (i + 1)) c := by rw [← e2, ← e1]; exact h
  rw [Crc.fold_append, Crc.fold_append] at h'
  have hf := Crc.fold_lt (s.take i) c hc
  generalize Crc.fold (s.take i) c = f at *
  have b1 : ∀ b : UInt8, f ^^^ b.toNat < 2 ^ 32 := fun b => Nat.xor_lt_two_pow hf (Nat.lt_of_lt_of_le b.toNat_lt (by decide))
  have h2 := fold_inj (s.drop (i + 1)) _ _ (Crc.stn_lt 8 _ (b1 x)) (Crc.stn_lt 8 _ (b1 s[i])) h'
  have h3 := stn_inj 8 _ _ (b1 x) (b1 s[i]) h2
  have h4 : f ^^^ (f ^^^ x.toNat) = f ^^^ (f ^^^ s[i].toNat) := by rw [h3]
  rw [← Nat.xor_assoc, ← Nat.xor_assoc, Nat.xor_self, Nat.zero_xor, Nat.zero_xor] at h4
  exact UInt8.toNat.inj h4
def hole (l : List UInt8) : List UInt8 := l.take 16 ++ (zeros 4 ++ l.drop 20)
def mid (l : List UInt8) : List UInt8 := (l.take 20).drop 16
theorem hole_mid (l : List UInt8) : l = l.take 16 ++ (mid l ++ l.drop 20) := by
  rw [mid, ← List.append_assoc]
  have : l.take 16 ++ (l.take 20).drop 16 = l.take 20 := by
    have h := List.take_append_drop 16 (l.take 20)
    rwa [List.take_take] at h
  rw [this, List.take_append_drop]
theorem hole_in (l : List UInt8) (i : Nat) (x : UInt8) (h1 : 16 ≤ i) (h2 : i < 20) : hole (l.set i x) = hole l := by
  rw [hole, hole, List.take_set_of_le h1, List.drop_set_of_lt h2]
theorem mid_out (l : List UInt8) (i : Nat) (x : UInt8) (h : i < 16 ∨ 20 ≤ i) : mid (l.set i x) = mid l := by
  rcases h with h | h
  · rw [mid, mid, List.take_set, List.drop_set_of_lt h]
  · rw [mid, mid, List.take_set_of_le h]
theorem hole_out (l : List UInt8) (i : Nat) (x : UInt8) (hl : l.length = 1024) (h : i < 16 ∨ 20 ≤ i) : hole (l.set i x) = (hole l).set i x := by
  have l16 : (l.take 16).length = 16 := by rw [List.length_take]; omega
  have z4 : (zeros 4).length = 4 := by simp [zeros]
  rcases h with h | h
  · rw [hole, hole, List.take_set, List.drop_set_of_lt (by omega), List.set_append_left _ _ (by omega)]
  · rw [hole, hole, List.take_set_of_le (by omega), List.drop_set, if_neg (by omega), List.set_append_right _ _ (by omega), l16, List.set_append_right _ _ (by omega), z4, show i - 16 - 4 = i - 20 from by omega]
theorem hole_len (l : List UInt8) (hl : l.length = 1024) : (hole l).length = 1024 := by
  simp only [hole, List.length_append, List.length_take, List.length_drop, zeros, List.length_replicate]; omega
section
variable (p r : Pg)
def Pg.rest : List UInt8 := p.body.data.toList ++ (zeros (996 - p.body.size) ++ fixB p.ser 8)
theorem Pg.bytes_eq (c : Nat) : p.bytes c = p.fr ++ (fixB c 4 ++ p.rest) := by
  rw [Pg.bytes, Pg.rest]; simp only [List.append_assoc]
theorem Pg.bytes16 (c : Nat) : (p.bytes c).take 16 = p.fr := by
  rw [p.bytes_eq, List.take_append_of_le_length (by rw [p.fr_len]; exact Nat.le_refl _), List.take_of_length_le (by rw [p.fr_len]; exact Nat.le_refl _)]
theorem Pg.bytes20 (c : Nat) : (p.bytes c).drop 20 = p.rest := by
  rw [p.bytes_eq, ← List.append_assoc, List.drop_append_of_le_length (by simp [p.fr_len, fixB_length]), List.drop_of_length_le (by simp [p.fr_len, fixB_length]), List.nil_append]
theorem Pg.bytes_mid (c : Nat) : mid (p.bytes c) = fixB c 4 := by
  rw [mid, p.bytes_eq]
  exact seg _ _ _ 16 20 p.fr_len (by rw [fixB_length])
theorem Pg.bytes_hole (c : Nat) : hole (p.bytes c) = p.bytes 0 := by
  rw [hole, p.bytes16, p.bytes20, p.bytes_eq 0, fix0]
theorem Pg.sum_lt : p.sum < 256 ^ 4 := by rw [Pg.sum]; have : (256 : Nat) ^ 4 = 4294967296 := rfl; omega
theorem Pg.sum_fold : p.sum + Crc.fold (p.bytes 0) 4294967295 = 4294967295 := by
  have h := Crc.fold_lt (p.bytes 0) 4294967295 (by decide)
  have : (2 : Nat) ^ 32 = 4294967296 := rfl
  rw [Pg.sum]; omega
theorem Pg.unlike (hp : p.body.size ≤ 996) (i : Nat) (hi : i < 1024) (x : UInt8) (hx : p.enc[i]? ≠ some x) : r.enc ≠ p.enc.set i x := by
  intro h
  have la : p.enc.length = 1024 := p.bytes_len hp _
  have hm : mid r.enc = fixB r.sum 4 := r.bytes_mid _
  have hm' : mid p.enc = fixB p.sum 4 := p.bytes_mid _
  have hh : hole r.enc = r.bytes 0 := r.bytes_hole _
  have hh' : hole p.enc = p.bytes 0 := p.bytes_hole _
  have hne : r.enc ≠ p.enc := fun e => hx (by
    have h2 : p.enc[i]? = (p.enc.set i x)[i]? := congrArg (fun l : List UInt8 => l[i]?) (e.symm.trans h)
    rw [h2, List.getElem?_set_self (by omega)])
  by_cases h16 : 16 ≤ i ∧ i < 20
  · have h1 : r.bytes 0 = p.bytes 0 := by rw [← hh, h, hole_in _ _ _ h16.1 h16.2, hh']
    have h2 : r.sum = p.sum := by rw [Pg.sum, Pg.sum, h1]
    apply hne
    rw [hole_mid r.enc, hole_mid p.enc, hm, hm', h2, h, List.take_set_of_le h16.1, List.drop_set_of_lt h16.2]
  · have ho : i < 16 ∨ 20 ≤ i := by omega
    have h1 : r.sum = p.sum := by
      rw [h, mid_out _ _ _ ho, hm'] at hm
      exact ((fixB_inj _ _ 4 r.sum_lt p.sum_lt).1 hm.symm)
    have h2 : Crc.fold (r.bytes 0) 4294967295 = Crc.fold (p.bytes 0) 4294967295 := by
      have := r.sum_fold
      have := p.sum_fold
      omega
    have h3 : r.bytes 0 = (p.bytes 0).set i x := by rw [← hh, h, hole_out _ _ _ la ho, hh']
    have l0 : (p.bytes 0).length = 1024 := p.bytes_len hp _
    rw [h3] at h2
    have h4 := fold_one (p.bytes 0) i (by omega) x _ (by decide) h2
    apply hne
    have h5 : r.bytes 0 = p.bytes 0 := by rw [h3, h4, List.set_getElem_self]
    have h6 : p.bytes r.sum = p.enc := by rw [h1]; rfl
    have h7 : r.enc = (r.bytes 0).take 16 ++ (fixB r.sum 4 ++ (r.bytes 0).drop 20) := by
      rw [r.bytes16, r.bytes20]; exact r.bytes_eq _
    rw [h7, ← h6, p.bytes_eq, h5, p.bytes16, p.bytes20]
end
def regAt : Nat := 4237837960
theorem reg_end : Crc.fold (zeros 1008) regAt = 4294967295 := by decide +kernel
theorem reg_near : ∀ i : Fin 16, ∀ y : Fin 256, Crc.fold ((zeros 16).set i.1 (UInt8.ofNat y.1)) 4294967295 ≠ regAt := by decide +kernel
theorem sum0 : fixB (4294967295 - Crc.fold (zeros 1024) 4294967295) 4 = [0xee, 0xae, 0xde, 0x7c] := by decide +kernel
theorem zeros_split (a b : Nat) : zeros (a + b) = zeros a ++ zeros b := by simp [zeros]
theorem hole_zeros : hole (zeros 1024) = zeros 1024 := by decide +kernel
theorem mid_zeros : mid (zeros 1024) = zeros 4 := by decide +kernel
set_option maxRecDepth 100000 in
theorem Pg.two (p : Pg) (hp : p.body.size ≤ 996) (i : Nat) (hi : i < 1024) (y : UInt8) : p.enc ≠ (zeros 1024).set i y := by
  intro h
  have hm : mid p.enc = fixB p.sum 4 := p.bytes_mid _
  have hh : hole p.enc = p.bytes 0 := p.bytes_hole _
  by_cases h16 : 16 ≤ i ∧ i < 20
  · have h1 : p.bytes 0 = zeros 1024 := by rw [← hh, h, hole_in _ _ _ h16.1 h16.2, hole_zeros]
    have h2 : fixB p.sum 4 = [0xee, 0xae, 0xde, 0x7c] := by rw [Pg.sum, h1, sum0]
    rw [h2, h, mid, List.take_set, List.drop_set, if_neg (by omega)] at hm
    have e : (List.take 20 (zeros 1024)).drop 16 = zeros 4 := mid_zeros
    rw [e] at hm
    obtain ⟨j, hj⟩ : ∃ j, j = i - 16 := ⟨_, rfl⟩
    rw [← hj] at hm
    have hj4 : j < 4 := by omega
    have e4 : zeros 4 = [0, 0, 0, 0] := rfl
    rw [e4] at hm
    rcases j with _ | _ | _ | _ | j
    · have := congrArg (fun l => l[1]?) hm; simp at this
    · have := congrArg (fun l => l[0]?) hm; simp at this
    · have := congrArg (fun l => l[0]?) hm; simp at this
    · have := congrArg (fun l => l[0]?) hm; simp at this
    · omega
  · have ho : i < 16 ∨ 20 ≤ i := by omega
    have h1 : p.sum = 0 := by
      rw [h, mid_out _ _ _ ho, mid_zeros, ← fix0] at hm
      exact ((fixB_inj _ _ 4 p.sum_lt (by decide)).1 hm.symm)
    rcases ho with ho | ho
    · have h2 : p.bytes 0 = (zeros 16).set i y ++ zeros 1008 := by
        have : p.bytes 0 = p.enc := by rw [Pg.enc, h1]
        rw [this, h, show (1024 : Nat) = 16 + 1008 from rfl, zeros_split, List.set_append_left _ _ (by simp [zeros]; omega)]
      have h3 := p.sum_fold
      rw [h1, Nat.zero_add, h2, Crc.fold_append, ← reg_end] at h3
      have h4 := fold_inj _ _ _ (Crc.fold_lt _ _ (by decide)) (by decide) h3
      have h5 := reg_near ⟨i, ho⟩ ⟨y.toNat, y.toNat_lt⟩
      rw [show UInt8.ofNat y.toNat = y from by simp] at h5
      exact h5 h4
    · have h20 : p.enc.take 20 = zeros 20 := by
        rw [h, List.take_set_of_le ho, zeros, List.take_replicate]; rfl
      have h16' : p.fr = zeros 16 := by
        rw [← p.bytes16 p.sum]
        have : (p.enc.take 20).take 16 = p.enc.take 16 := by rw [List.take_take]; rfl
        show p.enc.take 16 = _
        rw [← this, h20, zeros, List.take_replicate]; rfl
      have h8 : fixB p.ser 8 = zeros 8 := by
        have : p.fr.take 8 = fixB p.ser 8 := by
          rw [Pg.fr]; simp only [List.append_assoc]
          rw [List.take_append_of_le_length (by rw [fixB_length]; exact Nat.le_refl _), List.take_of_length_le (by rw [fixB_length]; exact Nat.le_refl _)]
        rw [← this, h16', zeros, List.take_replicate]; rfl
      have h2 : fixB p.body.size 2 = zeros 2 := by
        have : (p.fr.take 12).drop 10 = fixB p.body.size 2 := by
          have e : p.fr = (fixB p.ser 8 ++ [UInt8.ofNat p.kind] ++ [0]) ++ (fixB p.body.size 2 ++ fixB p.num 4) := by rw [Pg.fr]; simp only [List.append_assoc]
          rw [e]
          exact seg _ _ _ 10 12 (by simp [fixB_length]) (by rw [fixB_length])
        rw [← this, h16', zeros, List.take_replicate, List.drop_replicate]; rfl
      have hs : p.body.size = 0 := by
        have := congrArg numB h2
        rw [numB_fixB, Nat.mod_eq_of_lt (Nat.lt_of_le_of_lt hp (by decide))] at this
        rw [this]; rfl
      have hb : p.body.data.toList = [] := List.length_eq_zero_iff.1 (by rw [size_toList]; exact hs)
      have hr : p.enc.drop 20 = zeros 1004 := by
        rw [Pg.enc, p.bytes20, Pg.rest, hb, hs, h8, List.nil_append, ← zeros_split]
      apply p.not_blank
      rw [← List.take_append_drop 20 p.enc, h20, hr, ← zeros_split]
/-- a byte turned -/
theorem dec_turn (p : Pg) (hw : p.wrong = 0) (i : Nat) (hi : i < 1024) (x : UInt8) (hx : p.enc[i]? ≠ some x) (num : Nat) : (dec (p.enc.set i x) num).2 = 50 := by
  classical
  obtain ⟨_, hp⟩ := Pg.may hw
  have la : p.enc.length = 1024 := p.bytes_len hp _
  have hz : p.enc.set i x ≠ zeros 1024 := fun h => by
    apply p.two hp i hi p.enc[i]
    rw [← h, List.set_set, List.set_getElem_self]
  rw [dec, if_neg (by rw [List.length_set, la]; simp), if_neg hz, if_neg (fun h => p.unlike _ hp i hi x hx h.2.2)]
end Go.Proofs.YtkmcjjlkammlaaaDoor
