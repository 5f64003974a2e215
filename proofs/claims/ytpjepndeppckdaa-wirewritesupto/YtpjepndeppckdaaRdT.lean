/- Numbers with a sign, and texts, read. -/
import Derived.Test.YtpjepndeppckdaaRdU
import Derived.Laws.DeepNot64
namespace Go.Proofs.Ytpjepndeppckdaa
open Go.RowKit Go.Lib

theorem uintS_le (s : ByteArray) (p : Nat) (e : Int) (most : Nat) : (uintS s p e most).1 ≤ most := by
  unfold uintS
  split
  · simp
  · split
    · simp
    · split
      · simp
      · simp; omega
theorem uintS_pos (s : ByteArray) (p : Nat) (e : Int) (most : Nat) (h : p ≤ s.size) : (uintS s p e most).2.1 ≤ s.size ∧ p ≤ (uintS s p e most).2.1 := by
  have hu := dg_used (s.data.toList.drop p) 0 0
  rw [List.length_drop, size_toList] at hu
  unfold uintS
  split
  · simp [h]
  · split
    · simp [h]
    · split
      · simp [h]
      · simp; omega
theorem ret_int {k : IntKind} {a b : Int} (h : a = b) : Ending.returned (.int k a) = .returned (.int k b) := by rw [h]
/-- the number with a sign -/
def zag (u : Nat) : Int := if u % 2 = 0 then (u / 2 : Nat) else -((u / 2 : Nat) : Int) - 1
theorem and1_u64 (u : Nat) (h : u < 18446744073709551616) : bits .and .u64 (u : Int) 1 = ((u % 2 : Nat) : Int) := by
  have := u64_and_nat u 1 h (by decide)
  rw [show ((1 : Nat) : Int) = 1 from rfl] at this
  rw [this, Nat.and_one_is_mod]
set_option maxHeartbeats 400000 in
theorem rInt (a : Nat) (s : ByteArray) (p : Nat) (e : Int) (w : World) (h : Rd w a s p e) :
    Calls Try.prog 14 #[.pointer (some ⟨a, 0, none⟩)] w fun y w' => y = .returned (.int .i64 (zag (uintS s p e 18446744073709551615).1)) ∧ Rt w w' a s (uintS s p e 18446744073709551615).2.1 (uintS s p e 18446744073709551615).2.2 := by
  have hu := rUint a s p e 18446744073709551615 w h
  have hl := uintS_le s p e 18446744073709551615
  generalize uintS s p e 18446744073709551615 = q at hu hl ⊢
  obtain ⟨u, p', e'⟩ := q
  simp only at hu hl ⊢
  have HR := hide hu
  clear hu h
  have h1 := and1_u64 u (by omega)
  by_cases h2 : u % 2 = 0
  · have hz : zag u = (u / 2 : Nat) := if_pos h2
    have hb : (bits .and .u64 (u : Int) 1 != 0) = false := by rw [h1, h2]; rfl
    rw [hz]
    clear hz h1 h2
    go_enter Try.func14, Try.ntmps14
    go_wp2_with fail
    refine (unhide HR).mono ?_
    rintro x w1 ⟨rfl, hp⟩
    have HP := hide hp
    clear hp
    go_wp2
    go_ret
    refine ⟨?_, unhide HP⟩
    exact ret_int (a := (u : Int) / 2) (by omega)
  · have hz : zag u = -((u / 2 : Nat) : Int) - 1 := if_neg h2
    have hb : (bits .and .u64 (u : Int) 1 != 0) = true := by rw [h1, show u % 2 = 1 from by omega]; rfl
    rw [hz]
    clear hz h1 h2
    go_enter Try.func14, Try.ntmps14
    go_wp2_with fail
    refine (unhide HR).mono ?_
    rintro x w1 ⟨rfl, hp⟩
    have HP := hide hp
    clear hp
    go_wp2
    go_ret
    refine ⟨?_, unhide HP⟩
    exact ret_int (a := bits .xor .i64 (-1) ((u : Int) / 2)) (by rw [show ((u : Int) / 2) = ((u / 2 : Nat) : Int) from by omega, i64_not _ (by omega)]; omega)
/-- what Text takes -/
def textS (s : ByteArray) (p : Nat) (e most : Int) : ByteArray × Nat × Int :=
  if most < 0 then (⟨#[]⟩, p, failE e 1)
  else if (rawS s (uintS s p e most.toNat).2.1 (uintS s p e most.toNat).2.2 (uintS s p e most.toNat).1).2.2 ≠ 0
    then (⟨#[]⟩, p, (rawS s (uintS s p e most.toNat).2.1 (uintS s p e most.toNat).2.2 (uintS s p e most.toNat).1).2.2)
    else rawS s (uintS s p e most.toNat).2.1 (uintS s p e most.toNat).2.2 (uintS s p e most.toNat).1
theorem rawS_bad (s : ByteArray) (p : Nat) (e n : Int) (h : (rawS s p e n).2.2 ≠ 0) : (rawS s p e n).1 = ⟨#[]⟩ := by
  unfold rawS at h ⊢
  split
  · rfl
  · split
    · rfl
    · split
      · rfl
      · rename_i h1 h2 h3
        rw [if_neg h1, if_neg h2, if_neg h3] at h
        exact absurd rfl h
set_option maxHeartbeats 800000 in
theorem rText (a : Nat) (s : ByteArray) (p : Nat) (e most : Int) (w : World) (h : Rd w a s p e) (hmo : most < 9223372036854775808) :
    Calls Try.prog 17 #[.pointer (some ⟨a, 0, none⟩), .int .i64 most] w fun y w' => y = .returned (.string (textS s p e most).1) ∧ Rt w w' a s (textS s p e most).2.1 (textS s p e most).2.2 := by
  have H := hide h
  have hle := h.le
  by_cases hm : most < 0
  · have hr : textS s p e most = (⟨#[]⟩, p, failE e 1) := if_pos hm
    rw [hr]
    clear hr h
    go_enter Try.func17, Try.ntmps17
    go_wp2_with fail
    refine (rFail a s p e 1 _ (unhide H)).mono ?_
    rintro x w1 ⟨rfl, hp⟩
    have HP := hide hp
    clear hp
    go_wp2
    go_ret
    exact ⟨rfl, unhide HP⟩
  · obtain ⟨m, rfl⟩ := Int.eq_ofNat_of_zero_le (by omega : 0 ≤ most)
    unfold textS
    rw [if_neg hm, Int.toNat_natCast]
    have hu := rUint a s p e m w h
    have hul := uintS_le s p e m
    have hup := (uintS_pos s p e m hle).1
    generalize uintS s p e m = q at hu hul hup ⊢
    obtain ⟨u, p1, e1⟩ := q
    simp only at hu hul hup ⊢
    have hraw := fun (w1 : World) (h1 : Rd w1 a s p1 e1) => rRaw a s p1 e1 u w1 h1
    have hbad := rawS_bad s p1 e1 u
    generalize rawS s p1 e1 u = q at hraw hbad ⊢
    obtain ⟨t, p2, e2⟩ := q
    simp only at hraw hbad ⊢
    have hat := rAt a s p e w h
    have HU := hide hu
    have HW := hide hraw
    have HA := hide hat
    clear hu hraw hat h
    by_cases he2 : e2 = 0
    · subst he2
      rw [if_neg (by simp)]
      clear hbad
      go_enter Try.func17, Try.ntmps17
      go_wp2_with fail
      refine (unhide HA).mono ?_
      rintro x w1 ⟨rfl, rfl⟩
      go_wp2_with fail
      refine (unhide HU).mono ?_
      rintro x w2 ⟨rfl, hp⟩
      have HP := hide hp
      clear hp
      go_wp2_with fail
      refine ((unhide HW) _ (unhide HP).1).mono ?_
      rintro x w3 ⟨rfl, hp⟩
      have HQ := hide hp
      clear hp
      go_wp2_with fail
      refine (rStop0 a s p2 _ (unhide HQ).1).mono ?_
      rintro x w4 ⟨rfl, rfl⟩
      go_wp2
      go_ret
      exact ⟨rfl, (unhide HP).trans (unhide HQ)⟩
    · rw [if_pos he2]
      have ht := hbad he2
      subst ht
      clear hbad
      have HE := hide he2
      clear he2
      go_enter Try.func17, Try.ntmps17
      go_wp2_with fail
      refine (unhide HA).mono ?_
      rintro x w1 ⟨rfl, rfl⟩
      go_wp2_with fail
      refine (unhide HU).mono ?_
      rintro x w2 ⟨rfl, hp⟩
      have HP := hide hp
      clear hp
      go_wp2_with fail
      refine ((unhide HW) _ (unhide HP).1).mono ?_
      rintro x w3 ⟨rfl, hp⟩
      have HQ := hide hp
      clear hp
      go_wp2_with fail
      refine (rStop1 a s p2 e2 _ (unhide HQ).1 (unhide HE)).mono ?_
      rintro x w4 ⟨rfl, rfl⟩
      go_wp2_with fail
      refine (rBack a s p2 e2 p _ (unhide HQ).1 hle).mono ?_
      rintro x w5 ⟨rfl, hp⟩
      have HS := hide hp
      clear hp
      go_wp2
      go_ret
      exact ⟨rfl, ((unhide HP).trans (unhide HQ)).trans (unhide HS)⟩
end Go.Proofs.Ytpjepndeppckdaa
