/- The walk of DigestBack. -/
import Derived.Test.YtpbifpbblinopaaAwk
namespace Go.Proofs.Ytpbifpbblinopaa
open Go.RowKit

theorem hexS_cons (b : UInt8) (l : List UInt8) : hexS (b :: l) = dig (b.toNat / 16) :: dig (b.toNat % 16) :: hexS l := rfl
theorem hexS_at : ∀ (l : List UInt8) (j : Nat) (hj : j < l.length), (hexS l)[2 * j]? = some (dig (l[j].toNat / 16)) ∧ (hexS l)[2 * j + 1]? = some (dig (l[j].toNat % 16))
  | b :: l, 0, _ => by rw [hexS_cons]; exact ⟨rfl, rfl⟩
  | b :: l, j + 1, hj => by
    have ih := hexS_at l j (by simpa using hj)
    rw [hexS_cons, show 2 * (j + 1) = 2 * j + 1 + 1 from by omega]
    simpa using ih
theorem ch_mk (l : List UInt8) (j : Nat) : ch ⟨l.toArray⟩ j = (l.getD j 0).toNat := rfl
theorem mk_size (l : List UInt8) : (⟨l.toArray⟩ : ByteArray).size = l.length := by rw [← list_size]
theorem mk_self (s : ByteArray) : (⟨s.data.toList.toArray⟩ : ByteArray) = s := rfl
theorem vb_hex (l : List UInt8) (j : Nat) (hj : j < l.length) : vb (ch ⟨(hexS l).toArray⟩) j = l[j].toNat ∧ 0 ≤ dg (ch ⟨(hexS l).toArray⟩ (2 * j)) ∧ 0 ≤ dg (ch ⟨(hexS l).toArray⟩ (2 * j + 1)) := by
  have h := hexS_at l j hj
  have hx := UInt8.toNat_lt l[j]
  have e1 : dg (ch ⟨(hexS l).toArray⟩ (2 * j)) = (l[j].toNat / 16 : Nat) := by rw [ch_mk, List.getD, h.1]; exact dg_dig _ (by omega)
  have e2 : dg (ch ⟨(hexS l).toArray⟩ (2 * j + 1)) = (l[j].toNat % 16 : Nat) := by rw [ch_mk, List.getD, h.2]; exact dg_dig _ (by omega)
  unfold vb
  rw [e1, e2]
  omega
theorem from_hex (l : List UInt8) : fromR (ch ⟨(hexS l).toArray⟩) (hexS l).length = (l, 0) := by
  have hg : good (ch ⟨(hexS l).toArray⟩) (hexS l).length := by
    rw [hexS_length]
    refine ⟨by omega, fun i hi => ?_⟩
    have hv := vb_hex l (i / 2) (by omega)
    by_cases hp : i % 2 = 0
    · rw [show i = 2 * (i / 2) from by omega]; exact hv.2.1
    · rw [show i = 2 * (i / 2) + 1 from by omega]; exact hv.2.2
  unfold fromR
  rw [if_pos hg, hexS_length]
  congr 1
  rw [show 2 * l.length / 2 = l.length from by omega]
  apply List.ext_getElem
  · rw [val_length]
  · intro i h1 h2
    simp only [val, List.getElem_map, List.getElem_range]
    rw [(vb_hex l i h2).1, UInt8.ofNat_toNat]
theorem hex_from (t : ByteArray) (hg : good (ch t) t.size) : hexS (val (ch t) (t.size / 2)) = t.data.toList := by
  have hl := list_size t
  apply List.ext_getElem?
  intro i
  by_cases hi : i < t.size
  · have hj : i / 2 < (val (ch t) (t.size / 2)).length := by rw [val_length]; have := hg.1; omega
    have h := hexS_at _ (i / 2) hj
    have ev : (val (ch t) (t.size / 2))[i / 2].toNat = vb (ch t) (i / 2) := by
      simp only [val, List.getElem_map, List.getElem_range]
      rw [UInt8.toNat_ofNat', Nat.mod_eq_of_lt (vb_lt _ _)]
    rw [ev] at h
    have hc := ch_lt t i
    have hti : t.data.toList[i]? = some (UInt8.ofNat (ch t i)) := by
      unfold ch
      rw [List.getD, List.getElem?_eq_getElem (by omega)]
      simp
    rw [hti]
    by_cases hp : i % 2 = 0
    · have e : 2 * (i / 2) = i := by omega
      have h0 := hg.2 i hi
      have hd := dgN_lt (ch t (i + 1))
      rw [e] at h
      rw [h.1]
      congr 1
      apply UInt8.toNat_inj.1
      have e2 : vb (ch t) (i / 2) / 16 = (dg (ch t i)).toNat := by unfold vb; rw [e]; omega
      rw [e2, dig_dg _ hc h0, UInt8.toNat_ofNat', Nat.mod_eq_of_lt hc]
    · have e : 2 * (i / 2) + 1 = i := by omega
      have h0 := hg.2 i hi
      have hd := dgN_lt (ch t i)
      rw [e] at h
      rw [h.2]
      congr 1
      apply UInt8.toNat_inj.1
      have e2 : vb (ch t) (i / 2) % 16 = (dg (ch t i)).toNat := by unfold vb; rw [e]; omega
      rw [e2, dig_dg _ hc h0, UInt8.toNat_ofNat', Nat.mod_eq_of_lt hc]
  · rw [List.getElem?_eq_none (by rw [hexS_length, val_length]; omega), List.getElem?_eq_none (by omega)]
set_option maxRecDepth 100000 in
set_option maxHeartbeats 1000000 in
theorem back_walk (s t : ByteArray) (w : World) (hs : 2 * s.size + 2 ≤ 140737488355328) (ht : t.size ≤ 140737488355320) :
    Calls Try.prog 11 #[.string s, .string t] w fun e w' => e = .returned (.bool true) ∧ Below w.heap.size w w' := by
  obtain ⟨X, hX⟩ : ∃ X : ByteArray, X = ⟨(hexS s.data.toList).toArray⟩ := ⟨_, rfl⟩
  have hXs : X.size = 2 * s.size := by rw [hX, mk_size, hexS_length, list_size]
  have M1 : Hid (∀ u, Calls Try.prog 35 #[.string s] u fun e w' => e = .returned (.string X) ∧ Below u.heap.size u w') := by rw [hX]; exact hide (fun u => dHex s u hs)
  have M2 : Hid (∀ u, Calls Try.prog 34 #[.string X] u fun e w' => e = .returned (.tuple #[.string s, .int .i64 0]) ∧ Below u.heap.size u w') := by
    refine hide fun u => ?_
    have h := dFromHex X u (by omega)
    rw [hX, mk_size, from_hex, mk_self] at h
    rw [hX]
    exact h
  have M3 := hide (fun u => dFromHex t u (by omega))
  have M4 : Hid (∀ u, good (ch t) t.size → Calls Try.prog 35 #[.string ⟨(val (ch t) (t.size / 2)).toArray⟩] u fun e w' => e = .returned (.string t) ∧ Below u.heap.size u w') := by
    refine hide fun u hg => ?_
    have h := dHex ⟨(val (ch t) (t.size / 2)).toArray⟩ u (by rw [mk_size, val_length]; omega)
    rw [show (⟨(val (ch t) (t.size / 2)).toArray⟩ : ByteArray).data.toList = val (ch t) (t.size / 2) from rfl, hex_from t hg, mk_self] at h
    exact h
  have HVS : Hid ((⟨(val (ch t) (t.size / 2)).toArray⟩ : ByteArray).size = t.size / 2) := by rw [mk_size, val_length]; exact hide rfl
  have hs2 : (s.size : Int) ≤ 70368744177664 := by omega
  have hXi : (X.size : Int) = 2 * (s.size : Int) := by omega
  have ht2 : (t.size : Int) ≤ 140737488355328 := by omega
  have HX := hide hXi
  clear hX hXs hXi hs ht
  go_enter Try.func11, Try.ntmps11
  go_wp2_with fail
  refine (lAwake _).mono ?_
  rintro e w1 ⟨rfl, hb⟩
  have B1 := hide hb
  clear hb
  go_wp2_with fail
  refine (unhide M1 _).mono ?_
  rintro e w2 ⟨rfl, hb⟩
  have B2 := hide ((unhide B1).trans (hb.mono (unhide B1).size))
  clear hb B1
  go_wp2_with fail
  refine (unhide M2 _).mono ?_
  rintro e w3 ⟨rfl, hb⟩
  have B3 := hide ((unhide B2).trans (hb.mono (unhide B2).size))
  clear hb B2
  go_wp2_with fail
  refine (unhide M1 _).mono ?_
  rintro e w4 ⟨rfl, hb⟩
  have B4 := hide ((unhide B3).trans (hb.mono (unhide B3).size))
  clear hb B3
  have hXi := unhide HX
  go_wp2_with fail
  refine (unhide M3 _).mono ?_
  rintro e w5 ⟨rfl, hb⟩
  have B5 := hide ((unhide B4).trans (hb.mono (unhide B4).size))
  clear hb B4 hXi
  by_cases hg : good (ch t) t.size
  · have hR : fromR (ch t) t.size = (val (ch t) (t.size / 2), 0) := by unfold fromR; rw [if_pos hg]
    rw [hR]
    have M5 := hide (fun u => unhide M4 u hg)
    have hv : ((⟨(val (ch t) (t.size / 2)).toArray⟩ : ByteArray).size : Int) * 2 = (t.size : Int) := by have := unhide HVS; have := hg.1; omega
    have HV := hide hv
    have hvb : ((⟨(val (ch t) (t.size / 2)).toArray⟩ : ByteArray).size : Int) ≤ 70368744177664 := by omega
    clear hR hv hg M4 HVS
    dsimp only
    generalize (⟨(val (ch t) (t.size / 2)).toArray⟩ : ByteArray) = Y at *
    go_wp2_with fail
    refine (unhide M5 _).mono ?_
    rintro e w6 ⟨rfl, hb⟩
    have B6 := hide ((unhide B5).trans (hb.mono (unhide B5).size))
    clear hb B5
    have hv := unhide HV
    go_wp2
    go_ret
    exact ⟨rfl, unhide B6⟩
  · have hR : fromR (ch t) t.size = ([], 4) := by unfold fromR; rw [if_neg hg]
    rw [hR]
    clear hR hg M4 HVS
    dsimp only
    go_wp2
    go_ret
    exact ⟨rfl, unhide B5⟩
end Go.Proofs.Ytpbifpbblinopaa
