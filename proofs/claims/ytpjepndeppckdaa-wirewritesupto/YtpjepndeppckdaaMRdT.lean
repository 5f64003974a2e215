/- The document's reader: numbers to the base 128, with a sign, and texts. -/
import Derived.Test.YtpjepndeppckdaaMRdM
namespace Go.Proofs.Ytpjepndeppckdaa
open Go.RowKit Go.Lib

theorem dl_le' (s : ByteArray) (p : Nat) (h : p ≤ s.size) : p + dl (s.data.toList.drop p) 0 ≤ s.size := by
  have := dl_le (s.data.toList.drop p) 0
  rw [List.length_drop, size_toList] at this
  omega
theorem extract_dl (s : ByteArray) (p : Nat) : (s.extract p (p + dl (s.data.toList.drop p) 0)).data.toList = (s.data.toList.drop p).take (dl (s.data.toList.drop p) 0 - 0) := by
  simp [ByteArray.data_extract, List.extract_eq_take_drop]
/-- what Uint takes, by the document's way -/
theorem uintS_num (s : ByteArray) (p : Nat) (most : Nat) : uintS s p 0 most =
    ((numS (s.extract p (p + dl (s.data.toList.drop p) 0)).data.toList most).1, (if (numS (s.extract p (p + dl (s.data.toList.drop p) 0)).data.toList most).2 = 0 then p + dl (s.data.toList.drop p) 0 else p), (numS (s.extract p (p + dl (s.data.toList.drop p) 0)).data.toList most).2) := by
  have hf := dg_fin (s.data.toList.drop p) 0 0 (by omega)
  rw [← extract_dl] at hf
  have hlen : (s.extract p (p + dl (s.data.toList.drop p) 0)).data.toList.length = dl (s.data.toList.drop p) 0 := by
    have := dl_le (s.data.toList.drop p) 0
    rw [extract_dl, List.length_take]; omega
  unfold uintS numS
  rw [if_neg (by simp), hf]
  by_cases h1 : (fin (s.extract p (p + dl (s.data.toList.drop p) 0)).data.toList 0 0).2.2 ≠ 0
  · rw [if_pos h1, if_pos h1]
    simp only
    rw [if_neg h1]
  · rw [if_neg h1, if_neg h1]
    by_cases h2 : most < (fin (s.extract p (p + dl (s.data.toList.drop p) 0)).data.toList 0 0).1
    · rw [if_pos h2, if_pos h2]; rfl
    · rw [if_neg h2, if_neg h2]
      simp only
      rw [if_pos trivial]
      have h3 : (fin (s.extract p (p + dl (s.data.toList.drop p) 0)).data.toList 0 0).2.1 = dl (s.data.toList.drop p) 0 := by
        revert h1
        generalize (s.extract p (p + dl (s.data.toList.drop p) 0)).data.toList = D at hlen ⊢
        unfold fin
        split
        · intro h; simp at h
        · split
          · intro h; simp at h
          · intro _; simp only; omega
      rw [h3]
theorem numS_zero (D : List UInt8) (most : Nat) (h : (numS D most).2 ≠ 0) : (numS D most).1 = 0 := by
  unfold numS at h ⊢
  by_cases h1 : (fin D 0 0).2.2 ≠ 0
  · rw [if_pos h1]
  · rw [if_neg h1] at h ⊢
    by_cases h2 : most < (fin D 0 0).1
    · rw [if_pos h2]
    · rw [if_neg h2] at h
      exact absurd rfl h
set_option maxRecDepth 100000 in
set_option maxHeartbeats 800000 in
theorem mUint (a : Nat) (s : ByteArray) (p : Nat) (e : Int) (most : Nat) (w : World) (h : Rd w a s p e) :
    Calls Try.prog 52 #[.pointer (some ⟨a, 0, none⟩), .int .u64 most] w fun y w' => y = .returned (.int .u64 (uintS s p e most).1) ∧ Rt w w' a s (uintS s p e most).2.1 (uintS s p e most).2.2 := by
  have H := hide h
  have hle := h.le
  have hmx := h.max
  by_cases he : e = 0
  · subst he
    rw [uintS_num s p most]
    have hdg := mDigits a s p 0 w h
    have hdl := dl_le' s p hle
    have hd10 := dl_ten (s.data.toList.drop p) 0 (by omega)
    generalize dl (s.data.toList.drop p) 0 = n at *
    have hsz : (s.extract p (p + n)).size = n := by simp; omega
    have hnum := fun u => mNumber (s.extract p (p + n)) most u (by omega)
    generalize s.extract p (p + n) = t at *
    have hz := numS_zero t.data.toList most
    generalize numS t.data.toList most = q at *
    obtain ⟨v, x⟩ := q
    simp only at hnum hz ⊢
    have HD := hide hdg
    have HN := hide hnum
    clear hdg hnum
    obtain ⟨h1, h2, h3, c0, c1, c2, f1, f2⟩ := h
    by_cases hx : x = 0
    · subst hx
      rw [if_pos rfl]
      clear f2 hz
      go_enter Try.func52, Try.ntmps52
      go_wp2_with fail
      refine (unhide HD).mono ?_
      rintro y w1 ⟨rfl, k, rfl⟩
      go_wp2_with fail
      refine ((unhide HN) _).mono ?_
      rintro y w2 ⟨rfl, rfl⟩
      go_wp2
      go_ret
      have h' := ((unhide H).drewN k).setAt (p + n) (by omega)
      rw [Int.natCast_add] at h'
      exact ⟨rfl, h', ((Upd.refl _ _ _).drewN _).setCell _ _⟩
    · rw [if_neg hx]
      have hv := hz hx
      subst hv
      clear hz
      have hxb : (x != 0) = true := by rw [bne_iff_ne]; exact hx
      have hfe : failE 0 x = x := if_pos rfl
      have HFE := hide hfe
      clear hx hfe f2
      go_enter Try.func52, Try.ntmps52
      go_wp2_with fail
      refine (unhide HD).mono ?_
      rintro y w1 ⟨rfl, k, rfl⟩
      go_wp2_with fail
      refine ((unhide HN) _).mono ?_
      rintro y w2 ⟨rfl, rfl⟩
      go_wp2_with fail
      refine (mfail a s p 0 x _ ((unhide H).drewN _)).mono ?_
      rintro y w3 ⟨rfl, hp⟩
      rw [unhide HFE] at hp
      have HP := hide hp
      clear hp
      go_wp2
      go_ret
      exact ⟨rfl, (unhide HP).1, ((Upd.refl _ _ _).drewN _).trans (unhide HP).2 (.inl rfl)⟩
  · have hr : uintS s p e most = (0, p, e) := if_pos he
    rw [hr]
    have heb : (e != 0) = true := by rw [bne_iff_ne]; exact he
    obtain ⟨h1, h2, h3, c0, c1, c2, f1, f2⟩ := h
    clear hr he
    go_enter Try.func52, Try.ntmps52
    go_wp2
    go_ret
    exact ⟨rfl, Rt.refl (unhide H)⟩
theorem mZag (u : Nat) (w : World) (hu : u ≤ 18446744073709551615) :
    Calls Try.prog 65 #[.int .u64 u] w fun y w' => y = .returned (.int .i64 (zag u)) ∧ w' = w := by
  by_cases h2 : u % 2 = 0
  · have hz : zag u = (u / 2 : Nat) := if_pos h2
    have hb : ((u : Int) % 2 == 0) = true := by rw [beq_iff_eq]; omega
    rw [hz]
    clear hz h2
    go_enter Try.func65, Try.ntmps65
    go_wp2
    go_ret
    exact ⟨ret_int (a := (u : Int) / 2) (by omega), rfl⟩
  · have hz : zag u = -((u / 2 : Nat) : Int) - 1 := if_neg h2
    have hb : ((u : Int) % 2 == 0) = false := by rw [beq_eq_false_iff_ne]; omega
    rw [hz]
    clear hz h2
    go_enter Try.func65, Try.ntmps65
    go_wp2
    go_ret
    exact ⟨ret_int (a := -((u : Int) / 2) - 1) (by omega), rfl⟩
theorem mInt (a : Nat) (s : ByteArray) (p : Nat) (e : Int) (w : World) (h : Rd w a s p e) :
    Calls Try.prog 53 #[.pointer (some ⟨a, 0, none⟩)] w fun y w' => y = .returned (.int .i64 (zag (uintS s p e 18446744073709551615).1)) ∧ Rt w w' a s (uintS s p e 18446744073709551615).2.1 (uintS s p e 18446744073709551615).2.2 := by
  have hu := mUint a s p e 18446744073709551615 w h
  have hl := uintS_le s p e 18446744073709551615
  generalize uintS s p e 18446744073709551615 = q at hu hl ⊢
  obtain ⟨u, p', e'⟩ := q
  simp only at hu hl ⊢
  have HR := hide hu
  have HZ := hide (fun x => mZag u x hl)
  generalize zag u = z at HZ ⊢
  clear hu h hl
  go_enter Try.func53, Try.ntmps53
  go_wp2_with fail
  refine (unhide HR).mono ?_
  rintro x w1 ⟨rfl, hp⟩
  have HP := hide hp
  clear hp
  go_wp2_with fail
  refine ((unhide HZ) _).mono ?_
  rintro x w2 ⟨rfl, rfl⟩
  go_wp2
  go_ret
  exact ⟨rfl, unhide HP⟩
theorem rawS_err (s : ByteArray) (p : Nat) (e n : Int) (he : e ≠ 0) : rawS s p e n = (⟨#[]⟩, p, e) := if_pos he
theorem uintS_err (s : ByteArray) (p : Nat) (e : Int) (n : Nat) (he : e ≠ 0) : uintS s p e n = (0, p, e) := if_pos he
set_option maxRecDepth 100000 in
set_option maxHeartbeats 800000 in
theorem mText (a : Nat) (s : ByteArray) (p : Nat) (e most : Int) (w : World) (h : Rd w a s p e) (hmo : most < 9223372036854775808) :
    Calls Try.prog 55 #[.pointer (some ⟨a, 0, none⟩), .int .i64 most] w fun y w' => y = .returned (.string (textS s p e most).1) ∧ Rt w w' a s (textS s p e most).2.1 (textS s p e most).2.2 := by
  have H := hide h
  have hle := h.le
  by_cases hm : most < 0
  · have hr : textS s p e most = (⟨#[]⟩, p, failE e 1) := if_pos hm
    rw [hr]
    have hf : failE e 1 ≠ 0 := by unfold failE; split <;> omega
    have hfb : (failE e 1 != 0) = true := by rw [bne_iff_ne]; exact hf
    have hF := mfail a s p e 1 w h
    generalize failE e 1 = e1 at *
    have HU : Hid (∀ u, Rd u a s p e1 → Calls Try.prog 52 #[.pointer (some ⟨a, 0, none⟩), .int .u64 0] u fun y w' => y = .returned (.int .u64 0) ∧ Rt u w' a s p e1) := by
      intro u hu
      have := mUint a s p e1 0 u hu
      rw [uintS_err s p e1 0 hf] at this
      exact this
    have HW : Hid (∀ u, Rd u a s p e1 → Calls Try.prog 56 #[.pointer (some ⟨a, 0, none⟩), .int .i64 0] u fun y w' => y = .returned (.string ⟨#[]⟩) ∧ Rt u w' a s p e1) := by
      intro u hu
      have := mRaw a s p e1 0 u hu (by decide)
      rw [rawS_err s p e1 0 hf] at this
      exact this
    have HF := hide hF
    clear hr h hF hf
    go_enter Try.func55, Try.ntmps55
    go_wp2_with fail
    refine (unhide HF).mono ?_
    rintro x w1 ⟨rfl, hp⟩
    have HP := hide hp
    obtain ⟨h1, h2, h3, c0, c1, c2, f1, f2⟩ := hp.1
    clear hp c0 c2 f1 f2
    go_wp2_with fail
    refine (unhide HU _ (unhide HP).1).mono ?_
    rintro x w2 ⟨rfl, hp⟩
    have HQ := hide hp
    clear hp c1
    go_wp2_with fail
    refine (unhide HW _ (unhide HQ).1).mono ?_
    rintro x w3 ⟨rfl, hp⟩
    have HS := hide hp
    have HT := hide (hp.1.setAt p hle)
    obtain ⟨k1, k2, k3, c0, c1, c2, f1, f2⟩ := hp.1
    clear hp c0 f2
    go_wp2
    go_ret
    exact ⟨rfl, unhide HT, (((unhide HP).trans (unhide HQ)).trans (unhide HS)).2.setCell _ _⟩
  · obtain ⟨m, rfl⟩ := Int.eq_ofNat_of_zero_le (by omega : 0 ≤ most)
    unfold textS
    rw [if_neg hm, Int.toNat_natCast]
    have hu := mUint a s p e m w h
    have hul := uintS_le s p e m
    have hup := (uintS_pos s p e m hle).1
    generalize uintS s p e m = q at hu hul hup ⊢
    obtain ⟨u, p1, e1⟩ := q
    simp only at hu hul hup ⊢
    have hraw := fun (w1 : World) (h1 : Rd w1 a s p1 e1) => mRaw a s p1 e1 u w1 h1 (by omega)
    have hbad := rawS_bad s p1 e1 u
    generalize rawS s p1 e1 u = q at hraw hbad ⊢
    obtain ⟨t, p2, e2⟩ := q
    simp only at hraw hbad ⊢
    have HU := hide hu
    have HW := hide hraw
    have c1 := h.c1
    clear hu hraw h
    by_cases he2 : e2 = 0
    · subst he2
      rw [if_neg (by simp)]
      clear hbad
      go_enter Try.func55, Try.ntmps55
      go_wp2_with fail
      refine (unhide HU).mono ?_
      rintro x w2 ⟨rfl, hp⟩
      have HP := hide hp
      clear hp c1
      go_wp2_with fail
      refine ((unhide HW) _ (unhide HP).1).mono ?_
      rintro x w3 ⟨rfl, hp⟩
      have HQ := hide hp
      obtain ⟨k1, k2, k3, c0, c1, c2, f1, f2⟩ := hp.1
      clear hp c0 c1 f1 f2
      go_wp2
      go_ret
      exact ⟨rfl, (unhide HP).trans (unhide HQ)⟩
    · rw [if_pos he2]
      have ht := hbad he2
      subst ht
      clear hbad
      have heb : (e2 != 0) = true := by rw [bne_iff_ne]; exact he2
      clear he2
      go_enter Try.func55, Try.ntmps55
      go_wp2_with fail
      refine (unhide HU).mono ?_
      rintro x w2 ⟨rfl, hp⟩
      have HP := hide hp
      clear hp c1
      go_wp2_with fail
      refine ((unhide HW) _ (unhide HP).1).mono ?_
      rintro x w3 ⟨rfl, hp⟩
      have HQ := hide hp
      have HT := hide (hp.1.setAt p hle)
      obtain ⟨k1, k2, k3, c0, c1, c2, f1, f2⟩ := hp.1
      clear hp c0 f2
      go_wp2
      go_ret
      exact ⟨rfl, unhide HT, ((unhide HP).trans (unhide HQ)).2.setCell _ _⟩
end Go.Proofs.Ytpjepndeppckdaa
