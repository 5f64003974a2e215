/- States: there and back. -/
import Derived.Test.YtbahfpcfjhifbaaYx
import Derived.Test.YtbahfpcfjhifbaaXv
namespace Go.Proofs.Ytbahfpcfjhifbaa
open Go.RowKit
theorem take_back (L : List UInt8) {a b : Nat} (h1 : a ≤ b) : L.take a ++ (L.drop a).take (b - a) = L.take b := by
  rw [show b = a + (b - a) by omega, List.take_add, show a + (b - a) - a = b - a by omega]
theorem seg_app (L : List UInt8) {p q r : Nat} (h1 : p ≤ q) (h2 : q ≤ r) : (L.drop p).take (q - p) ++ (L.drop q).take (r - q) = (L.drop p).take (r - p) := by
  rw [show L.drop q = (L.drop p).drop (q - p) by rw [List.drop_drop]; congr 1; omega, show r - q = (r - p) - (q - p) by omega]
  exact take_back _ (by omega)
theorem drop_len {s : ByteArray} {p : Nat} {l t : List UInt8} (h : s.data.toList.drop p = l ++ t) (hl : 0 < l.length) : p + l.length ≤ s.size := by
  have := congrArg List.length h
  rw [List.length_drop, List.length_append, W.size_toList] at this
  omega
theorem ext_data (s : ByteArray) (p n : Nat) : (s.extract p (p + n)).data.toList = (s.data.toList.drop p).take n := by
  rw [ByteArray.data_extract, Array.toList_extract, List.extract_eq_take_drop, show p + n - p = n by omega]
theorem raw_fwd {s : ByteArray} {p : Nat} {l t : List UInt8} (h : s.data.toList.drop p = l ++ t) (hp : p ≤ s.size) : W.rawS s p 0 (l.length : Int) = (⟨l.toArray⟩, p + l.length, 0) := by
  have hle : p + l.length ≤ s.size := by
    by_cases h0 : 0 < l.length
    · exact drop_len h h0
    · omega
  unfold W.rawS
  rw [if_neg (by simp), if_neg (by omega), if_neg (by omega), Int.toNat_natCast]
  refine Prod.ext ?_ rfl
  show s.extract p (p + l.length) = ⟨l.toArray⟩
  have := ext_data s p l.length
  rw [h, List.take_left] at this
  exact ByteArray.ext (Array.toList_inj.1 (by rw [this]))
theorem fix1_fwd {s : ByteArray} {p : Nat} {b : UInt8} {t : List UInt8} (h : s.data.toList.drop p = [b] ++ t) : W.fixS s p 0 1 = (b.toNat, p + 1, 0) := by
  have hp : p + [b].length ≤ s.size := drop_len h (by simp)
  have h1 := raw_fwd h (by simp at hp; omega)
  have h1 : W.rawS s p 0 1 = (⟨[b].toArray⟩, p + 1, 0) := h1
  unfold W.fixS
  rw [if_neg (by omega), h1]
  simp [W.numB]
theorem text_fwd {s : ByteArray} {p : Nat} {v : ByteArray} {t : List UInt8} (h : s.data.toList.drop p = textB v ++ t) (hv : v.size ≤ 40) : W.textS s p 0 40 = (v, p + (textB v).length, 0) := by
  unfold textB at h
  rw [List.append_assoc] at h
  have h1 := W.uint_fwd (s := s) (p := p) (most := 40) h (by omega) hv
  have hp : p + (W.uintB 9 v.size).length ≤ s.size := drop_len h (by have := (uintB_len 9 v.size).1; omega)
  have h2 := raw_fwd (drop_app h) hp
  rw [W.size_toList] at h2
  unfold W.textS
  rw [if_neg (by decide), show ((40 : Int).toNat) = 40 from rfl, h1]
  simp only [h2]
  rw [if_neg (by simp)]
  unfold textB
  rw [List.length_append, W.size_toList, ← Nat.add_assoc]
theorem tkX_fwd {s : ByteArray} {x : Sb} {p : Nat} {t : List UInt8} (hf : x.Fit) (hm : x.may) (hc : x.c ≤ 1099511627776) (h : s.data.toList.drop p = sibB x ++ t) : tkX s p 0 = (x, p + (sibB x).length, 0) := by
  have hv : x.val.size ≤ 40 := by unfold Sb.may at hm; split at hm <;> omega
  have e0 : sibB x = W.uintB 9 x.a ++ (W.uintB 9 x.c ++ ([if x.gone then 1 else 0] ++ textB x.val)) := rfl
  rw [e0, List.append_assoc] at h
  have h1 := W.uint_fwd (s := s) (p := p) (most := 4294967295) h (by have := hf.1; omega) (by have := hf.1; omega)
  have h' := drop_app h
  rw [List.append_assoc] at h'
  have h2 := W.uint_fwd (s := s) (most := 1099511627776) h' hf.2.1 hc
  have h'' := drop_app h'
  rw [List.append_assoc] at h''
  have h3 := fix1_fwd h''
  have h4 := text_fwd (drop_app h'') hv
  have hmk : markE ((if x.gone then 1 else 0 : UInt8).toNat % 256) 0 = 0 := by cases x.gone <;> rfl
  have h5 := tkX_eq h1 h2 h3 ((congrArg (fun e => W.textS s (p + (W.uintB 9 x.a).length + (W.uintB 9 x.c).length + 1) e 40) hmk).trans h4)
  rw [h5]
  refine Prod.ext ?_ (Prod.ext ?_ rfl)
  · refine Sb.ext' rfl rfl ?_ rfl
    show decide ((if x.gone then 1 else 0 : UInt8).toNat % 256 = 1) = x.gone
    cases x.gone <;> rfl
  · show _ = p + (sibB x).length
    rw [e0]
    simp only [List.length_append, List.length_cons, List.length_nil]
    omega
theorem tkXs_fwd (s : ByteArray) : ∀ (l : List Sb) (p : Nat) (t : List UInt8), (∀ x ∈ l, x.Fit ∧ x.may ∧ x.c ≤ 1099511627776) → s.data.toList.drop p = sibsB l ++ t → tkXs s l.length p 0 = (l, p + (sibsB l).length, 0)
  | [], p, t, _, _ => by simp [tkXs, sibsB]
  | x :: l, p, t, hx, h => by
    have e : sibsB (x :: l) = sibB x ++ sibsB l := by simp [sibsB]
    rw [e, List.append_assoc] at h
    have h0 := hx x (List.mem_cons_self ..)
    have h1 := tkX_fwd h0.1 h0.2.1 h0.2.2 h
    have h3 := tkXs_fwd s l _ t (fun y hy => hx y (List.mem_cons_of_mem _ hy)) (drop_app h)
    rw [List.length_cons, tkXs_succ, h1]
    simp only [h3]
    rw [e, List.length_append, Nat.add_assoc]
theorem sok_c {s : St} (h : SOk s) : ∀ x ∈ s.sibs, x.c ≤ 1099511627776 := fun x hx => by
  have h1 := (h.cvd x hx).2
  have h2 : V.cnt s.seen x.a ≤ 1099511627776 := V.cnt_le h.vec.pos x.a
  exact Nat.le_trans h1 h2
theorem decT_enc {s : St} (h : SOk s) (hf : FitT s) : decT ⟨(stB s).toArray⟩ = (s, 0) := by
  have hs : (⟨(stB s).toArray⟩ : ByteArray).size = (stB s).length := List.size_toArray
  have e0 : (⟨(stB s).toArray⟩ : ByteArray).data.toList.drop 0 = vecB s.seen ++ (W.uintB 9 s.sibs.length ++ sibsB s.sibs) := by simp [stB]
  have h1 := tkV_fwd ⟨(stB s).toArray⟩ s.seen 0 _ (small_ok h.ok hf.seen) h.slen e0
  have he : takeE ⟨(stB s).toArray⟩ 0 0 = 0 := by unfold takeE; rw [h1]; simp [V.okB_true.2 h.ok]
  have hl : takeL ⟨(stB s).toArray⟩ 0 0 = s.seen := by unfold takeL; rw [he, h1]; simp
  have e1 := drop_app e0
  have h2 := W.uint_fwd (most := 64) e1 (by have := h.len; omega) h.len
  have h3 := tkXs_fwd ⟨(stB s).toArray⟩ s.sibs _ [] (fun x hx => ⟨hf.sibs x hx, h.may x hx, sok_c h x hx⟩) (by rw [List.append_nil]; exact drop_app e1)
  have hT : tkT ⟨(stB s).toArray⟩ 0 0 = (s, (stB s).length, 0) := by
    unfold tkT
    rw [he, hl, h1]
    simp only [h2, h3]
    refine Prod.ext rfl (Prod.ext ?_ rfl)
    show _ = (stB s).length
    unfold stB
    simp only [List.length_append]
    omega
  exact decT_ok hT (by rw [hs]; simp [W.endE]) h
theorem rawS_err (s : ByteArray) (p : Nat) {e : Int} (n : Int) (h : e ≠ 0) : W.rawS s p e n = (⟨#[]⟩, p, e) := by unfold W.rawS; rw [if_pos h]
theorem fixS_err (s : ByteArray) (p : Nat) {e : Int} (h : e ≠ 0) : W.fixS s p e 1 = (0, p, e) := by unfold W.fixS; rw [if_neg (by omega), rawS_err s p _ h]; rfl
theorem textS_err (s : ByteArray) (p : Nat) {e : Int} (h : e ≠ 0) : W.textS s p e 40 = (⟨#[]⟩, p, e) := by
  unfold W.textS
  rw [if_neg (by decide), uintS_err s p _ h]
  simp only [rawS_err s p _ h]
  rw [if_pos h]
theorem markE_err (m : Nat) {e : Int} (h : e ≠ 0) : markE m e = e := by unfold markE W.failE; rw [if_neg h]; split <;> rfl
theorem raw_ok (s : ByteArray) (p n : Nat) (h : (W.rawS s p 0 (n : Int)).2.2 = 0) : p + n ≤ s.size ∧ W.rawS s p 0 (n : Int) = (s.extract p (p + n), p + n, 0) ∧ (s.extract p (p + n)).size = n := by
  unfold W.rawS at h ⊢
  rw [if_neg (by simp), if_neg (by omega)] at h ⊢
  by_cases h2 : (s.size : Int) - p < n
  · rw [if_pos h2] at h; cases h
  · rw [if_neg h2]
    refine ⟨by omega, by rw [Int.toNat_natCast], ?_⟩
    rw [ByteArray.size_extract]; omega
theorem fix1_ok (s : ByteArray) (p : Nat) (h : (W.fixS s p 0 1).2.2 = 0) : ∃ b : UInt8, p + 1 ≤ s.size ∧ W.fixS s p 0 1 = (b.toNat, p + 1, 0) ∧ [b] = (s.data.toList.drop p).take 1 := by
  have hr : (W.rawS s p 0 ((1 : Nat) : Int)).2.2 = 0 := by
    unfold W.fixS at h; rw [if_neg (by omega)] at h; exact h
  obtain ⟨h1, h2, h3⟩ := raw_ok s p 1 hr
  have h4 := ext_data s p 1
  have h5 : ((s.extract p (p + 1)).data.toList).length = 1 := by rw [W.size_toList]; exact h3
  obtain ⟨b, hb⟩ := List.length_eq_one_iff.1 h5
  refine ⟨b, h1, ?_, by rw [← h4, hb]⟩
  unfold W.fixS
  rw [if_neg (by omega)]
  have h2 : W.rawS s p 0 1 = (s.extract p (p + 1), p + 1, 0) := h2
  rw [h2]
  simp only [hb]
  simp [W.numB]
theorem text_ok (s : ByteArray) (p : Nat) (h : (W.textS s p 0 40).2.2 = 0) : p ≤ (W.textS s p 0 40).2.1 ∧ ((W.textS s p 0 40).2.1 ≤ s.size) ∧ textB (W.textS s p 0 40).1 = (s.data.toList.drop p).take ((W.textS s p 0 40).2.1 - p) := by
  unfold W.textS at h ⊢
  rw [if_neg (by decide), show ((40 : Int).toNat) = 40 from rfl] at h ⊢
  by_cases h2 : (W.rawS s (W.uintS s p 0 40).2.1 (W.uintS s p 0 40).2.2 (W.uintS s p 0 40).1).2.2 ≠ 0
  · rw [if_pos h2] at h; exact absurd h h2
  · rw [if_neg h2] at h ⊢
    have he : (W.uintS s p 0 40).2.2 = 0 := by
      by_cases he : (W.uintS s p 0 40).2.2 = 0
      · exact he
      · rw [rawS_err s _ _ he] at h; exact absurd h he
    have u1 := W.uint_ok s p 40 he
    rw [he] at h ⊢
    generalize W.uintS s p 0 40 = q at *
    obtain ⟨v, p1, e1⟩ := q
    simp only at *
    obtain ⟨r1, r2, r3⟩ := raw_ok s p1 v h
    rw [r2]
    refine ⟨by show p ≤ p1 + v; omega, r1, ?_⟩
    show textB (s.extract p1 (p1 + v)) = (s.data.toList.drop p).take (p1 + v - p)
    unfold textB
    rw [r3, u1.2.2, ext_data, ← seg_app s.data.toList u1.1 (Nat.le_add_right p1 v), show p1 + v - p1 = v by omega]
theorem tkX_inv (s : ByteArray) (p : Nat) (h : (tkX s p 0).2.2 = 0) : p ≤ (tkX s p 0).2.1 ∧ (tkX s p 0).2.1 ≤ s.size ∧ sibB (tkX s p 0).1 = (s.data.toList.drop p).take ((tkX s p 0).2.1 - p) := by
  obtain ⟨xa, px, ex, h1⟩ : ∃ xa px ex, W.uintS s p 0 4294967295 = (xa, px, ex) := ⟨_, _, _, rfl⟩
  obtain ⟨xc, py, ey, h2⟩ : ∃ xc py ey, W.uintS s px ex 1099511627776 = (xc, py, ey) := ⟨_, _, _, rfl⟩
  obtain ⟨xm, pm, em, h3⟩ : ∃ xm pm em, W.fixS s py ey 1 = (xm, pm, em) := ⟨_, _, _, rfl⟩
  obtain ⟨tv, pt, et, h4⟩ : ∃ tv pt et, W.textS s pm (markE (xm % 256) em) 40 = (tv, pt, et) := ⟨_, _, _, rfl⟩
  rw [tkX_eq h1 h2 h3 h4] at h ⊢
  simp only at h ⊢
  subst h
  have hmk : markE (xm % 256) em = 0 := by
    by_cases hq : markE (xm % 256) em = 0
    · exact hq
    · rw [textS_err s pm hq] at h4; exact absurd (Prod.mk.inj (Prod.mk.inj h4).2).2 hq
  have hem : em = 0 := by
    by_cases hq : em = 0
    · exact hq
    · rw [markE_err _ hq] at hmk; exact hmk
  subst hem
  have hey : ey = 0 := by
    by_cases hq : ey = 0
    · exact hq
    · rw [fixS_err s py hq] at h3; exact (Prod.mk.inj (Prod.mk.inj h3).2).2
  subst hey
  have hex : ex = 0 := by
    by_cases hq : ex = 0
    · exact hq
    · rw [uintS_err s px _ hq] at h2; exact (Prod.mk.inj (Prod.mk.inj h2).2).2
  subst hex
  rw [hmk] at h4
  have u1 := W.uint_ok s p 4294967295 (by rw [h1])
  have u2 := W.uint_ok s px 1099511627776 (by rw [h2])
  obtain ⟨b, u3, u4, u5⟩ := fix1_ok s py (by rw [h3])
  have u6 := text_ok s pm (by rw [h4])
  rw [h1] at u1
  rw [h2] at u2
  rw [h4] at u6
  rw [h3] at u4
  simp only at u1 u2 u6
  obtain ⟨rfl, hpm⟩ := Prod.mk.inj u4
  obtain ⟨rfl, -⟩ := Prod.mk.inj hpm
  have hb : (if decide (b.toNat % 256 = 1) = true then 1 else 0 : UInt8) = b := by
    have hlt := b.toNat_lt
    unfold markE W.failE at hmk
    by_cases hb1 : b.toNat = 1
    · have : b = 1 := UInt8.toNat.inj hb1
      subst this; rfl
    · by_cases hb0 : b.toNat = 0
      · have : b = 0 := UInt8.toNat.inj hb0
        subst this; rfl
      · exfalso
        rw [if_pos ⟨by omega, by omega⟩, if_pos rfl] at hmk
        cases hmk
  refine ⟨by omega, u6.2.1, ?_⟩
  show W.uintB 9 xa ++ (W.uintB 9 xc ++ ([if decide (b.toNat % 256 = 1) = true then 1 else 0] ++ textB tv)) = _
  rw [hb, u1.2.2, u2.2.2, u5, u6.2.2]
  have e3 := seg_app s.data.toList (show py ≤ py + 1 by omega) u6.1
  rw [show py + 1 - py = 1 by omega] at e3
  rw [e3, seg_app _ u2.1 (by omega), seg_app _ u1.1 (by omega)]
theorem tkXs_inv (s : ByteArray) : ∀ (n p : Nat), p ≤ s.size → (tkXs s n p 0).2.2 = 0 → p ≤ (tkXs s n p 0).2.1 ∧ (tkXs s n p 0).2.1 ≤ s.size ∧ (tkXs s n p 0).1.length = n ∧ sibsB (tkXs s n p 0).1 = (s.data.toList.drop p).take ((tkXs s n p 0).2.1 - p)
  | 0, p, hp, _ => by simp [tkXs, sibsB, hp]
  | n + 1, p, hp, h => by
    rw [tkXs_succ] at h ⊢
    by_cases h1 : (tkX s p 0).2.2 = 0
    · have u1 := tkX_inv s p h1
      rw [h1] at h ⊢
      generalize tkX s p 0 = x at *
      obtain ⟨xa, px, ex⟩ := x
      simp only at h h1 u1 ⊢
      have ih := tkXs_inv s n px u1.2.1 h
      generalize tkXs s n px 0 = z at *
      obtain ⟨l, pz, ez⟩ := z
      simp only at ih ⊢
      refine ⟨by omega, ih.2.1, by rw [List.length_cons, ih.2.2.1], ?_⟩
      rw [show sibsB (xa :: l) = sibB xa ++ sibsB l by simp [sibsB], u1.2.2, ih.2.2.2]
      exact seg_app _ u1.1 ih.1
    · exfalso
      rw [tkXs_err _ _ _ h1] at h
      exact h1 h
theorem takeE_ok {s : ByteArray} (he : takeE s 0 0 = 0) : V.Ok (tkV s 0 0).1 ∧ (tkV s 0 0).2.2 = 0 ∧ takeL s 0 0 = (tkV s 0 0).1 := by
  have hok : V.okB (tkV s 0 0).1 = true := by
    cases hk : V.okB (tkV s 0 0).1
    · exfalso
      unfold takeE at he
      rw [hk] at he
      simp only [Bool.false_eq_true, if_false] at he
      unfold W.failE at he
      split at he
      · cases he
      · rename_i h0; exact h0 he
    · rfl
  refine ⟨V.okB_true.1 hok, by unfold takeE at he; rw [hok] at he; simpa using he, by unfold takeL; rw [if_pos he]⟩
theorem tkT_inv (s : ByteArray) (h : (tkT s 0 0).2.2 = 0) : (tkT s 0 0).2.1 ≤ s.size ∧ stB (tkT s 0 0).1 = s.data.toList.take (tkT s 0 0).2.1 := by
  unfold tkT at h ⊢
  simp only at h ⊢
  have hu : (W.uintS s (tkV s 0 0).2.1 (takeE s 0 0) 64).2.2 = 0 := by
    by_cases hq : (W.uintS s (tkV s 0 0).2.1 (takeE s 0 0) 64).2.2 = 0
    · exact hq
    · rw [tkXs_err _ _ _ hq] at h; exact h
  have he : takeE s 0 0 = 0 := by
    by_cases hq : takeE s 0 0 = 0
    · exact hq
    · rw [uintS_err s _ _ hq] at hu; exact hu
  obtain ⟨-, h0, hl⟩ := takeE_ok he
  have hi := tkV_inv s h0
  rw [he] at hu h ⊢
  rw [hl]
  have u1 := W.uint_ok s (tkV s 0 0).2.1 64 hu
  rw [hu] at h ⊢
  generalize tkV s 0 0 = v at *
  obtain ⟨l, p, e⟩ := v
  simp only at *
  generalize W.uintS s p 0 64 = x at *
  obtain ⟨n, px, ex⟩ := x
  simp only at *
  have hpx : px ≤ s.size := by rcases u1.2.1 with h | h; exact h; omega
  have ih := tkXs_inv s n px hpx h
  generalize tkXs s n px 0 = z at *
  obtain ⟨ls, pz, ez⟩ := z
  simp only at *
  refine ⟨ih.2.1, ?_⟩
  unfold stB
  simp only
  rw [hi.2, ih.2.2.1, u1.2.2, ih.2.2.2, seg_app _ u1.1 ih.1]
  exact take_back _ (by omega)
theorem decT_cases (s : ByteArray) : (∃ T, decT s = (T, 0) ∧ SOk T ∧ FitT T ∧ (⟨(stB T).toArray⟩ : ByteArray) = s) ∨ decT s = (St.none, 110) := by
  obtain ⟨T, q, e, hT⟩ : ∃ T q e, tkT s 0 0 = (T, q, e) := ⟨_, _, _, rfl⟩
  by_cases h : W.endE s.size q e = 0 ∧ SOk T
  · left
    have hh := h.1
    unfold W.endE at hh
    split at hh
    · rename_i he
      subst he
      split at hh
      · cases hh
      · rename_i hq
        have hi := tkT_inv s (by rw [hT])
        have hf := (tkT_fit s 0 0).1
        rw [hT] at hi hf
        refine ⟨T, decT_ok hT h.1 h.2, h.2, hf, ?_⟩
        simp only at hi
        rw [hi.2, show q = s.data.toList.length by rw [W.size_toList]; omega, List.take_length]
    · rename_i he; exact absurd hh he
  · exact .inr (decT_no hT h)
theorem stB_none : (⟨(stB St.none).toArray⟩ : ByteArray) = ⟨#[0, 0]⟩ := by
  simp [stB, St.none, vecB, dotsB, sibsB, W.uintB]
end Go.Proofs.Ytbahfpcfjhifbaa
