/- What was told is taken; and the small callers. -/
import Derived.Test.YtpepgealeanecaaGg
import Derived.Lib.Strings
namespace Go.Proofs.Ytpepgealeanecaa
namespace W
open Go.RowKit Go.Lib
theorem fixB_snoc (v n : Nat) : fixB v (n + 1) = fixB (v / 256) n ++ [UInt8.ofNat v] := by
  unfold fixB
  rw [List.range_succ, List.map_append]
  congr 1
  · apply List.map_congr_left
    intro i hi
    have hi : i < n := by simpa using hi
    rw [Nat.div_div_eq_div_mul, Nat.mul_comm, ← Nat.pow_succ, show n + 1 - 1 - i = n - 1 - i + 1 from by omega]
  · simp
theorem numB_fixB (v n : Nat) : numB (fixB v n) = v % 256 ^ n := by
  induction n generalizing v with
  | zero => simp [fixB, numB, Nat.mod_one]
  | succ n ih =>
    rw [fixB_snoc, numB_snoc, ih, Nat.pow_succ, Nat.mul_comm (256 ^ n) 256, Nat.mod_mul]
    simp
    omega
theorem fixB_inj (a b n : Nat) (ha : a < 256 ^ n) (hb : b < 256 ^ n) : (fixB a n = fixB b n) ↔ a = b := by
  constructor
  · intro h
    have := congrArg numB h
    rw [numB_fixB, numB_fixB, Nat.mod_eq_of_lt ha, Nat.mod_eq_of_lt hb] at this
    exact this
  · intro h; rw [h]
section
variable {s : ByteArray} {p : Nat}
theorem drop_len (_h : p ≤ s.size) : (s.data.toList.drop p).length = s.size - p := by rw [List.length_drop, size_toList]
theorem raw_fwd {u t : List UInt8} (hp : p ≤ s.size) (h : s.data.toList.drop p = u ++ t) : rawS s p 0 u.length = (⟨u.toArray⟩, p + u.length, 0) := by
  have hl := drop_len hp
  rw [h, List.length_append] at hl
  unfold rawS
  rw [if_neg (by simp), if_neg (by omega), if_neg (by omega), Int.toNat_natCast]
  refine Prod.ext ?_ rfl
  show s.extract p (p + u.length) = ⟨u.toArray⟩
  apply ByteArray.ext
  apply Array.toList_inj.1
  rw [extract_data, h, show p + u.length - p = u.length from by omega]
  simp
theorem raw_cut {n : Nat} (hp : p ≤ s.size) (h : (s.data.toList.drop p).length < n) : rawS s p 0 n = (⟨#[]⟩, p, 10) := by
  rw [drop_len hp] at h
  unfold rawS
  rw [if_neg (by simp), if_neg (by omega), if_pos (by omega)]
theorem fix_fwd {v n : Nat} {t : List UInt8} (hp : p ≤ s.size) (h : s.data.toList.drop p = fixB v n ++ t) (h1 : 1 ≤ n) (h8 : n ≤ 8) (hv : v < 256 ^ n) : fixS s p 0 n = (v, p + n, 0) := by
  have hr := raw_fwd hp h
  rw [fixB_length] at hr
  unfold fixS
  rw [if_neg (by omega), hr]
  simp only
  rw [numB_fixB, Nat.mod_eq_of_lt hv]
theorem fix_cut {n : Nat} (hp : p ≤ s.size) (h : (s.data.toList.drop p).length < n) (h1 : 1 ≤ n) (h8 : n ≤ 8) : fixS s p 0 n = (0, p, 10) := by
  unfold fixS
  rw [if_neg (by omega), raw_cut hp h]
  rfl
end
theorem nanC : isNan 9221120237041090560 = true := by kernel_rfl
theorem nan0 : isNan 0 = false := by kernel_rfl
section
variable {s : ByteArray} {p : Nat}
theorem flt_fwd {v : Nat} {t : List UInt8} (hp : p ≤ s.size) (h : s.data.toList.drop p = fixB (fltB v) 8 ++ t) (hv : v < 18446744073709551616) : fltS s p 0 = (fltB v, p + 8, 0) := by
  have hb : fltB v < 256 ^ 8 := by unfold fltB; split <;> omega
  have hf := fix_fwd hp h (by decide) (by decide) hb
  rw [show ((8 : Nat) : Int) = 8 from rfl] at hf
  unfold fltS
  rw [hf]
  simp only
  rw [if_neg]
  rintro ⟨h1, h2⟩
  unfold fltB at h1 h2
  by_cases hn : isNan v = true
  · rw [if_pos hn] at h2; exact h2 rfl
  · rw [if_neg hn] at h1; exact hn h1
theorem flt_cut (hp : p ≤ s.size) (h : (s.data.toList.drop p).length < 8) : fltS s p 0 = (0, p, 10) := by
  have hf := fix_cut (n := 8) hp h (by decide) (by decide)
  rw [show ((8 : Nat) : Int) = 8 from rfl] at hf
  unfold fltS
  rw [hf]
  simp [nan0]
end
end W
open Go.RowKit Go.Lib
/-- a real, a corner, a flag, a tally -/
def rT (x : Nat) : Ty := ⟨2, false, [W.fltB x], ta0, []⟩
def cT (x y : Nat) : Ty := ⟨5, false, [W.fltB x, W.fltB y], ta0, []⟩
def fT (b : Bool) : Ty := ⟨1, b, [], ta0, []⟩
def nT (ta : List Nat) : Ty := ⟨3, false, [], ta, []⟩
/-- the text of what a value is made of -/
def tS (t : Ty) : ByteArray := ⟨(toldM t).toArray⟩
theorem tS_list (t : Ty) : (tS t).data.toList = toldM t := by simp [tS]
theorem tS_size (t : Ty) : (tS t).size = (toldM t).length := by simp [tS, ByteArray.size]
/-- what take makes of a text -/
def Takes (s : ByteArray) (o : Option Ty) : Prop := ∀ u : World, Calls Try.prog 43 #[.string s] u fun z u' => ∃ v, z = .returned v ∧ TkR u u' v o
theorem fltsB2 (x : Nat) : fltsB [W.fltB x] = W.fixB (W.fltB x) 8 := by simp [fltsB, flt_flt]
theorem fltsB5 (x y : Nat) : fltsB [W.fltB x, W.fltB y] = W.fixB (W.fltB x) 8 ++ W.fixB (W.fltB y) 8 := by simp [fltsB, flt_flt]
theorem told_r (x : Nat) : toldM (rT x) = [2] ++ W.fixB (W.fltB x) 8 := by rw [← fltsB2]; rfl
theorem told_c (x y : Nat) : toldM (cT x y) = [5] ++ (W.fixB (W.fltB x) 8 ++ W.fixB (W.fltB y) 8) := by rw [← fltsB5]; rfl
theorem fix1 (b : UInt8) : W.fixB b.toNat 1 = [b] := by simp [W.fixB]
theorem first_byte {s : ByteArray} {b : UInt8} {r : List UInt8} (h : s.data.toList = b :: r) : W.fixS s 0 0 1 = (b.toNat, 1, 0) :=
  W.fix_fwd (p := 0) (v := b.toNat) (n := 1) (t := r) (Nat.zero_le _) (by rw [List.drop_zero, h, fix1]; rfl) (by decide) (by decide) b.toNat_lt
theorem sz_of {s : ByteArray} {l : List UInt8} (h : s.data.toList = l) : s.size = l.length := by rw [← h]; exact (W.size_toList s).symm
/-- the kind's number -/
def kOf : Option Ty → Nat
  | some t => t.k
  | none => 0
theorem takes_r {x : Nat} (hx : x < 18446744073709551616) : Takes (tS (rT x)) (some (rT x)) := by
  intro u
  have hl : (tS (rT x)).data.toList = [2] ++ W.fixB (W.fltB x) 8 := by rw [tS_list, told_r]
  have hs : (tS (rT x)).size = 9 := by rw [sz_of hl]; simp [W.fixB_length]
  have hf : W.fltS (tS (rT x)) 1 0 = (W.fltB x, 9, 0) := W.flt_fwd (v := x) (t := []) (by omega) (by rw [hl]; simp) hx
  have h := take2 (tS (rT x)) (by omega) 1 0 (first_byte hl) (W.fltB x) 9 0 hf u
  have he : W.endE (tS (rT x)).size 9 0 = 0 := by rw [hs]; rfl
  rw [he, okT, if_pos ⟨rfl, (tS_list (rT x)).symm⟩] at h
  exact h
theorem takes_c {x y : Nat} (hx : x < 18446744073709551616) (hy : y < 18446744073709551616) : Takes (tS (cT x y)) (some (cT x y)) := by
  intro u
  have hl : (tS (cT x y)).data.toList = [5] ++ (W.fixB (W.fltB x) 8 ++ W.fixB (W.fltB y) 8) := by rw [tS_list, told_c]
  have hs : (tS (cT x y)).size = 17 := by rw [sz_of hl]; simp [W.fixB_length]
  have hf : W.fltS (tS (cT x y)) 1 0 = (W.fltB x, 9, 0) := W.flt_fwd (v := x) (t := W.fixB (W.fltB y) 8) (by omega) (by rw [hl]; simp) hx
  have hg : W.fltS (tS (cT x y)) 9 0 = (W.fltB y, 17, 0) := W.flt_fwd (v := y) (t := []) (by omega) (by
    rw [hl, show 9 = 1 + 8 from rfl, ← List.drop_drop, List.append_nil, List.drop_left' (by rfl), List.drop_left' (by simp [W.fixB_length])]) hy
  have h := take5 (tS (cT x y)) (by omega) 1 0 (first_byte hl) (W.fltB x) 9 0 hf (W.fltB y) 17 0 hg u
  have he : W.endE (tS (cT x y)).size 17 0 = 0 := by rw [hs]; rfl
  rw [he, okT, if_pos ⟨rfl, (tS_list (cT x y)).symm⟩] at h
  exact h
/-- what as answers -/
def AsR (u u' : World) (y : Value) (t : Ty) : Prop := ∃ fa fc ra rc n m, y = .tuple #[tyV t.k t.on fa n fc t.ta ra m rc, .int .i64 0] ∧ n = t.fl.length ∧ m = t.ru.length ∧ TAt u' t fa fc ra rc ∧ Below u.heap.size u u' ∧ Frsh u.heap.size fa ∧ Frsh u.heap.size ra ∧ (t.ru = [] → ra = none ∧ rc = 0)
/-- a value of this kind, or none -/
def ofK (k : Nat) : Option Ty → Option Ty
  | some t => if t.k = k then some t else none
  | none => none
def AsO (u u' : World) (y : Value) : Option Ty → Prop
  | some t => AsR u u' y t
  | none => y = .tuple #[tyV 0 false none 0 0 ta0 none 0 0, .int .i64 120] ∧ Below u.heap.size u u'
theorem tat_box {w w' : World} {t : Ty} {fa ra : Option Addr} {fc rc g B : Nat} (h : TAt w t fa fc ra rc) (hf : Frsh B fa) (hr : Frsh B ra) (hg : g < B) (ho : ∀ i, i ≠ g → w'.heap[i]? = w.heap[i]?) : TAt w' t fa fc ra rc := by
  have go : ∀ {ao : Option Addr} {xs : List Value}, Lies w ao xs → Frsh B ao → Lies w' ao xs := fun {ao xs} hl hfr h0 => by
    obtain ⟨b, o, e, hr⟩ := hl h0
    refine ⟨b, o, e, fun j v hv => ?_⟩
    have hb : b ≠ g := by have := hfr b o e; omega
    rw [World.cell?_of_block (w := w) (a := ⟨b, o + j, none⟩) (ho b hb)]
    exact hr j v hv
  exact ⟨h.kind, go h.fl hf, go h.ru hr, h.fb, h.rb, h.tl, h.tb, h.fn, h.rn, h.f0, h.r0, h.fm, h.rm⟩

set_option maxRecDepth 100000 in
set_option maxHeartbeats 4000000 in
theorem kKind (s : ByteArray) (x : Option Ty) (h : Takes s x) (u : World) : Calls Try.prog 13 #[.string s] u fun z u' => z = .returned (.int .u8 (kOf x : Int)) ∧ Below u.heap.size u u' := by
  have HT := hide h
  clear h
  cases x with
  | none =>
    have HT : Hid (∀ u : World, Calls Try.prog 43 #[.string s] u fun z u' => z = .returned (.tuple #[tyV 0 false none 0 0 ta0 none 0 0, .bool false]) ∧ Below u.heap.size u u') := fun u => (unhide HT u).mono fun z u' hh => by
      obtain ⟨v, h1, h2, h3⟩ := hh
      exact ⟨by rw [h1, h2], h3⟩
    go_enter Try.func13, Try.ntmps13
    go_wp2_with (first
      | (go_at_call 43; refine (unhide HT u).mono ?_; rintro e W1 ⟨rfl, hb1⟩; have HB1 := hide hb1; clear hb1; obtain ⟨M, hM⟩ : ∃ M, M = W1.heap.size := ⟨_, rfl⟩; have HM := hide hM; clear hM)
      | ((with_reducible refine wpList_alloc_ty (by rfl) (by rfl) (some 3) (by rfl) M (unhide HM) ?_); intro W2 HX2 HB2 HS2; simp only [Act.put, List.setIfInBounds_toArray, List.set_cons_zero, List.set_cons_succ])
      | ((with_reducible refine wpList_store_ty (by rfl) (.tmp 3) (.tmp 8) (by rfl) M 0 false none 0 0 ta0 none 0 0 (by with_unfolding_all rfl) (by with_unfolding_all rfl) rfl (unhide HX2) ?_); intro W3 HX3 HE3 HS3 HO3; simp only [Act.put]; have c0 := (unhide HX3).c0; have HB3 : Hid (Below u.heap.size u W3) := (unhide HB1).trans ((unhide HE3 M W1 (Nat.le_refl _) (unhide HB2)).mono (by rw [unhide HM]; exact (unhide HB1).size)))
      | fail)
    go_ret
    exact ⟨rfl, unhide HB3⟩
  | some t =>
    have HT : Hid (∀ u : World, Calls Try.prog 43 #[.string s] u fun z u' => ∃ fa fc ra rc n m, z = .returned (.tuple #[tyV t.k t.on fa n fc t.ta ra m rc, .bool true]) ∧ t.ta.length = 10 ∧ Below u.heap.size u u') := fun u => (unhide HT u).mono fun z u' hh => by
      obtain ⟨v, h1, fa, fc, ra, rc, n, m, h2, h3, h4, h5, h6, _⟩ := hh
      exact ⟨fa, fc, ra, rc, n, m, by rw [h1, h2], h5.tl, h6⟩
    obtain ⟨k, on, fl, ta, ru⟩ := t
    simp only at HT
    rw [show kOf (some (⟨k, on, fl, ta, ru⟩ : Ty)) = k from rfl]
    go_enter Try.func13, Try.ntmps13
    go_wp2_with (first
      | (go_at_call 43; refine (unhide HT u).mono ?_; rintro e W1 ⟨fa, fc, ra, rc, n, m, rfl, hl1, hb1⟩; have HL1 := hide hl1; have HB1 := hide hb1; clear hb1 hl1; obtain ⟨M, hM⟩ : ∃ M, M = W1.heap.size := ⟨_, rfl⟩; have HM := hide hM; clear hM)
      | ((with_reducible refine wpList_alloc_ty (by rfl) (by rfl) (some 3) (by rfl) M (unhide HM) ?_); intro W2 HX2 HB2 HS2; simp only [Act.put, List.setIfInBounds_toArray, List.set_cons_zero, List.set_cons_succ])
      | ((with_reducible refine wpList_store_ty (by rfl) (.tmp 3) (.tmp 8) (by rfl) M k on fa n fc ta ra m rc (by with_unfolding_all rfl) (by with_unfolding_all rfl) (unhide HL1) (unhide HX2) ?_); intro W3 HX3 HE3 HS3 HO3; simp only [Act.put]; have c0 := (unhide HX3).c0; have HB3 : Hid (Below u.heap.size u W3) := (unhide HB1).trans ((unhide HE3 M W1 (Nat.le_refl _) (unhide HB2)).mono (by rw [unhide HM]; exact (unhide HB1).size)))
      | fail)
    go_ret
    exact ⟨rfl, unhide HB3⟩
set_option maxRecDepth 100000 in
set_option maxHeartbeats 4000000 in
theorem kAsYes (s : ByteArray) (t : Ty) (h : Takes s (some t)) (u : World) : Calls Try.prog 50 #[.string s, .int .u8 (t.k : Int)] u fun z u' => ∃ v, z = .returned v ∧ AsR u u' v t := by
  have HT := hide h
  clear h
  have HT : Hid (∀ u : World, Calls Try.prog 43 #[.string s] u fun z u' => ∃ fa fc ra rc n m, z = .returned (.tuple #[tyV t.k t.on fa n fc t.ta ra m rc, .bool true]) ∧ n = t.fl.length ∧ m = t.ru.length ∧ TAt u' t fa fc ra rc ∧ Below u.heap.size u u' ∧ Frsh u.heap.size fa ∧ Frsh u.heap.size ra ∧ (t.ru = [] → ra = none ∧ rc = 0)) := fun u => (unhide HT u).mono fun z u' hh => by
    obtain ⟨v, h1, fa, fc, ra, rc, n, m, h2, h3, h4, h5, h6⟩ := hh
    exact ⟨fa, fc, ra, rc, n, m, by rw [h1, h2], h3, h4, h5, h6⟩
  have HPO : Hid (∀ u u' v, (∃ fa fc ra rc n m, v = .tuple #[tyV t.k t.on fa n fc t.ta ra m rc, .int .i64 0] ∧ n = t.fl.length ∧ m = t.ru.length ∧ TAt u' t fa fc ra rc ∧ Below u.heap.size u u' ∧ Frsh u.heap.size fa ∧ Frsh u.heap.size ra ∧ (t.ru = [] → ra = none ∧ rc = 0)) → AsR u u' v t) := fun _ _ _ h => h
  generalize AsR = AR at *
  have HTL : Hid (∀ (w : World) fa fc ra rc, TAt w t fa fc ra rc → t.ta.length = 10) := fun w fa fc ra rc h => h.tl
  obtain ⟨k, hk⟩ : ∃ k, k = t.k := ⟨_, rfl⟩
  obtain ⟨on, hon⟩ : ∃ k, k = t.on := ⟨_, rfl⟩
  obtain ⟨ta, hta⟩ : ∃ k, k = t.ta := ⟨_, rfl⟩
  rw [← hk, ← hon, ← hta] at HT HPO
  rw [← hta] at HTL
  rw [← hk]
  clear hk hon hta
  obtain ⟨R, hR⟩ : ∃ R, R = u.heap.size := ⟨_, rfl⟩
  have HR := hide hR
  clear hR
  have hkk : ((k : Int) != (k : Int)) = false := by simp
  go_enter Try.func50, Try.ntmps50
  go_wp2_with (first
    | ((with_reducible refine wpList_alloc_ty (by rfl) (by rfl) (some 4) (by rfl) R (unhide HR) ?_); intro W0 HX0 HB0 HS0; simp only [Act.put, List.setIfInBounds_toArray, List.set_cons_zero, List.set_cons_succ])
    | (go_at_call 43; refine (unhide HT W0).mono ?_; rintro e W1 ⟨fa, fc, ra, rc, n, m, rfl, hn1, hm1, ht1, hb1, hf1, hr1, hq1⟩; have HQ1 := hide hq1; clear hq1; have HF1 := hide hf1; have HRF1 := hide hr1; clear hf1 hr1; have HN1 := hide hn1; have HM1 := hide hm1; have HTA1 := hide ht1; have HB1 := hide hb1; clear hb1 hn1 hm1 ht1; obtain ⟨M, hM⟩ : ∃ M, M = W1.heap.size := ⟨_, rfl⟩; have HM := hide hM; clear hM)
    | ((with_reducible refine wpList_alloc_ty (by rfl) (by rfl) (some 6) (by rfl) M (unhide HM) ?_); intro W2 HX2 HB2 HS2; simp only [Act.put, List.setIfInBounds_toArray, List.set_cons_zero, List.set_cons_succ])
    | ((with_reducible refine wpList_store_ty (by rfl) (.tmp 6) (.tmp 11) (by rfl) M k on fa n fc ta ra m rc (by with_unfolding_all rfl) (by with_unfolding_all rfl) (unhide HTL _ _ _ _ _ (unhide HTA1)) (unhide HX2) ?_); intro W3 HX3 HE3 HS3 HO3; simp only [Act.put]; have HB13 : Hid (Below W1.heap.size W1 W3) := (by have := unhide HE3 M W1 (Nat.le_refl _) (unhide HB2); rw [unhide HM] at this; exact this); have c0 := (unhide HX3).c0)
    | ((with_reducible refine wpList_load_ty (by rfl) (.tmp 6) (by rfl) (some 22) (by rfl) M (by with_unfolding_all rfl) (unhide HX3) ?_); simp only [Act.put, List.setIfInBounds_toArray, List.set_cons_zero, List.set_cons_succ]; have HXR : Hid (Bt W3 R 0 false none 0 0 ta0 none 0 0) := ((unhide HX0).below (unhide HB1)).below (unhide HB13))
    | ((with_reducible refine wpList_store_ty (by rfl) (.tmp 4) (.tmp 22) (by rfl) R k on fa n fc ta ra m rc (by with_unfolding_all rfl) (by with_unfolding_all rfl) (unhide HTL _ _ _ _ _ (unhide HTA1)) (unhide HXR) ?_); intro W4 HX4 HE4 HS4 HO4; simp only [Act.put])
    | fail)
  refine bodyPost_ret (results_ty_tmp rfl _ _ R k on fa n fc ta ra m rc rfl (unhide HX4)) rfl ?_
  have hb3 : Below R u W3 := (unhide HB0).trans (((unhide HB1).trans ((unhide HB13).mono (unhide HB1).size)).mono (by have := unhide HS0; omega))
  refine ⟨_, rfl, unhide HPO _ _ _ ⟨fa, fc, ra, rc, n, m, rfl, unhide HN1, unhide HM1, ?_, (by rw [← unhide HR]; exact unhide HE4 R u (Nat.le_refl _) hb3), (fun g o e => by have := unhide HF1 g o e; have := unhide HS0; have := unhide HR; omega), (fun g o e => by have := unhide HRF1 g o e; have := unhide HS0; have := unhide HR; omega), unhide HQ1⟩⟩
  exact tat_box ((unhide HTA1).below (unhide HB13)) (unhide HF1) (unhide HRF1) (by have := unhide HS0; omega) (unhide HO4)
set_option maxRecDepth 100000 in
set_option maxHeartbeats 4000000 in
theorem kAsNone (s : ByteArray) (k : Nat) (h : Takes s none) (u : World) : Calls Try.prog 50 #[.string s, .int .u8 (k : Int)] u fun z u' => z = .returned (.tuple #[tyV 0 false none 0 0 ta0 none 0 0, .int .i64 120]) ∧ Below u.heap.size u u' := by
  have HT := hide h
  clear h
  have HT : Hid (∀ u : World, Calls Try.prog 43 #[.string s] u fun z u' => z = .returned (.tuple #[tyV 0 false none 0 0 ta0 none 0 0, .bool false]) ∧ Below u.heap.size u u') := fun u => (unhide HT u).mono fun z u' hh => by
    obtain ⟨v, h1, h2, h3⟩ := hh
    exact ⟨by rw [h1, h2], h3⟩
  obtain ⟨R, hR⟩ : ∃ R, R = u.heap.size := ⟨_, rfl⟩
  have HR := hide hR
  clear hR
  go_enter Try.func50, Try.ntmps50
  go_wp2_with (first
    | ((with_reducible refine wpList_alloc_ty (by rfl) (by rfl) (some 4) (by rfl) R (unhide HR) ?_); intro W0 HX0 HB0 HS0; simp only [Act.put, List.setIfInBounds_toArray, List.set_cons_zero, List.set_cons_succ])
    | (go_at_call 43; refine (unhide HT W0).mono ?_; rintro e W1 ⟨rfl, hb1⟩; have HB1 := hide hb1; clear hb1; obtain ⟨M, hM⟩ : ∃ M, M = W1.heap.size := ⟨_, rfl⟩; have HM := hide hM; clear hM)
    | ((with_reducible refine wpList_alloc_ty (by rfl) (by rfl) (some 6) (by rfl) M (unhide HM) ?_); intro W2 HX2 HB2 HS2; simp only [Act.put, List.setIfInBounds_toArray, List.set_cons_zero, List.set_cons_succ])
    | ((with_reducible refine wpList_store_ty (by rfl) (.tmp 6) (.tmp 11) (by rfl) M 0 false none 0 0 ta0 none 0 0 (by with_unfolding_all rfl) (by with_unfolding_all rfl) rfl (unhide HX2) ?_); intro W3 HX3 HE3 HS3 HO3; simp only [Act.put]; have HB13 : Hid (Below W1.heap.size W1 W3) := (by have := unhide HE3 M W1 (Nat.le_refl _) (unhide HB2); rw [unhide HM] at this; exact this); have HXR : Hid (Bt W3 R 0 false none 0 0 ta0 none 0 0) := ((unhide HX0).below (unhide HB1)).below (unhide HB13); have hbt := bTy0)
    | ((with_reducible refine wpList_store_ty (by rfl) (.tmp 4) (.tmp 21) (by rfl) R 0 false none 0 0 ta0 none 0 0 (by with_unfolding_all rfl) (by with_unfolding_all rfl) rfl (unhide HXR) ?_); intro W4 HX4 HE4 HS4 HO4; simp only [Act.put])
    | fail)
  refine bodyPost_ret (results_ty_tmp rfl _ _ R 0 false none 0 0 ta0 none 0 0 rfl (unhide HX4)) rfl ?_
  have hb3 : Below R u W3 := (unhide HB0).trans (((unhide HB1).trans ((unhide HB13).mono (unhide HB1).size)).mono (by have := unhide HS0; omega))
  exact ⟨rfl, (by rw [← unhide HR]; exact unhide HE4 R u (Nat.le_refl _) hb3)⟩
set_option maxRecDepth 100000 in
set_option maxHeartbeats 4000000 in
theorem kAsOther (s : ByteArray) (t : Ty) (k : Nat) (hk : t.k ≠ k) (h : Takes s (some t)) (u : World) : Calls Try.prog 50 #[.string s, .int .u8 (k : Int)] u fun z u' => z = .returned (.tuple #[tyV 0 false none 0 0 ta0 none 0 0, .int .i64 120]) ∧ Below u.heap.size u u' := by
  have HT := hide h
  clear h
  have HT : Hid (∀ u : World, Calls Try.prog 43 #[.string s] u fun z u' => ∃ fa fc ra rc n m, z = .returned (.tuple #[tyV t.k t.on fa n fc t.ta ra m rc, .bool true]) ∧ t.ta.length = 10 ∧ Below u.heap.size u u') := fun u => (unhide HT u).mono fun z u' hh => by
    obtain ⟨v, h1, fa, fc, ra, rc, n, m, h2, h3, h4, h5, h6, _⟩ := hh
    exact ⟨fa, fc, ra, rc, n, m, by rw [h1, h2], h5.tl, h6⟩
  obtain ⟨q, on, fl, ta, ru⟩ := t
  simp only at HT hk
  have hkk : ((q : Int) != (k : Int)) = true := by rw [bne_iff_ne]; omega
  clear hk
  obtain ⟨R, hR⟩ : ∃ R, R = u.heap.size := ⟨_, rfl⟩
  have HR := hide hR
  clear hR
  go_enter Try.func50, Try.ntmps50
  go_wp2_with (first
    | ((with_reducible refine wpList_alloc_ty (by rfl) (by rfl) (some 4) (by rfl) R (unhide HR) ?_); intro W0 HX0 HB0 HS0; simp only [Act.put, List.setIfInBounds_toArray, List.set_cons_zero, List.set_cons_succ])
    | (go_at_call 43; refine (unhide HT W0).mono ?_; rintro e W1 ⟨fa, fc, ra, rc, n, m, rfl, hl1, hb1⟩; have HL1 := hide hl1; have HB1 := hide hb1; clear hb1 hl1; obtain ⟨M, hM⟩ : ∃ M, M = W1.heap.size := ⟨_, rfl⟩; have HM := hide hM; clear hM)
    | ((with_reducible refine wpList_alloc_ty (by rfl) (by rfl) (some 6) (by rfl) M (unhide HM) ?_); intro W2 HX2 HB2 HS2; simp only [Act.put, List.setIfInBounds_toArray, List.set_cons_zero, List.set_cons_succ])
    | ((with_reducible refine wpList_store_ty (by rfl) (.tmp 6) (.tmp 11) (by rfl) M q on fa n fc ta ra m rc (by with_unfolding_all rfl) (by with_unfolding_all rfl) (unhide HL1) (unhide HX2) ?_); intro W3 HX3 HE3 HS3 HO3; simp only [Act.put]; have HB13 : Hid (Below W1.heap.size W1 W3) := (by have := unhide HE3 M W1 (Nat.le_refl _) (unhide HB2); rw [unhide HM] at this; exact this); have HXR : Hid (Bt W3 R 0 false none 0 0 ta0 none 0 0) := ((unhide HX0).below (unhide HB1)).below (unhide HB13); have hbt := bTy0; have c0 := (unhide HX3).c0)
    | ((with_reducible refine wpList_store_ty (by rfl) (.tmp 4) (.tmp 21) (by rfl) R 0 false none 0 0 ta0 none 0 0 (by with_unfolding_all rfl) (by with_unfolding_all rfl) rfl (unhide HXR) ?_); intro W4 HX4 HE4 HS4 HO4; simp only [Act.put])
    | fail)
  refine bodyPost_ret (results_ty_tmp rfl _ _ R 0 false none 0 0 ta0 none 0 0 rfl (unhide HX4)) rfl ?_
  have hb3 : Below R u W3 := (unhide HB0).trans (((unhide HB1).trans ((unhide HB13).mono (unhide HB1).size)).mono (by have := unhide HS0; omega))
  exact ⟨rfl, (by rw [← unhide HR]; exact unhide HE4 R u (Nat.le_refl _) hb3)⟩
theorem kAs (s : ByteArray) (k : Nat) (x : Option Ty) (h : Takes s x) (u : World) : Calls Try.prog 50 #[.string s, .int .u8 (k : Int)] u fun z u' => ∃ v, z = .returned v ∧ AsO u u' v (ofK k x) := by
  cases x with
  | none => exact (kAsNone s k h u).mono fun z u' hh => ⟨_, hh.1, rfl, hh.2⟩
  | some t =>
    by_cases hk : t.k = k
    · rw [show ofK k (some t) = some t from if_pos hk, ← hk]
      exact kAsYes s t h u
    · rw [show ofK k (some t) = none from if_neg hk]
      exact (kAsOther s t k hk h u).mono fun z u' hh => ⟨_, hh.1, rfl, hh.2⟩

end Go.Proofs.Ytpepgealeanecaa
