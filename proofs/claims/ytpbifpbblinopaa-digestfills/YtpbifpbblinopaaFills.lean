/- The walk of DigestFills. -/
import Derived.Test.YtpbifpbblinopaaSp
import Derived.Deep.RegionWith
import Derived.Deep.CutRange
namespace Go.Proofs.Ytpbifpbblinopaa
open Go.RowKit

/-- a row of bytes in memory -/
structure RB (u : World) (g cap : Nat) (bs : List UInt8) : Prop where
  row : ∃ cur, u.heap[g]? = some (.cells cur 5 (0, 0)) ∧ cur.size = cap ∧ cur.toList.take bs.length = Lib.byteCells bs
  le : bs.length ≤ cap
  max : cap ≤ maxLen
theorem RB.of {w u : World} {v : Value} {bs : List UInt8} (h : OwnB w u v bs) (h0 : 0 < bs.length) : ∃ g cap, v = .slice (some ⟨g, 0, none⟩) bs.length cap ∧ w.heap.size ≤ g ∧ RB u g cap bs := by
  rcases h.1.2 with ⟨_, h1⟩ | ⟨g, cap, cur, hv, hb, hg, hn, hm, hs, ht⟩
  · omega
  · exact ⟨g, cap, hv, hb, ⟨cur, hg, by omega, by simpa using ht⟩, hn, hm⟩
theorem RB.lt {u : World} {g cap : Nat} {bs : List UInt8} (h : RB u g cap bs) : g < u.heap.size := by
  obtain ⟨cur, h1, _⟩ := h.row
  exact (Array.getElem?_eq_some_iff.1 h1).1
theorem RB.keep {u u' : World} {g cap : Nat} {bs : List UInt8} (h : RB u g cap bs) (e : u'.heap[g]? = u.heap[g]?) : RB u' g cap bs := by
  obtain ⟨cur, h1, h2⟩ := h.row
  exact ⟨⟨cur, e.trans h1, h2⟩, h.le, h.max⟩
theorem RB.below {u u' : World} {g cap : Nat} {bs : List UInt8} (h : RB u g cap bs) (hb : Below u.heap.size u u') : RB u' g cap bs := h.keep (hb.block g h.lt)
theorem RB.u1 {u u' : World} {g g' cap : Nat} {bs : List UInt8} (h : RB u g cap bs) (hb : U1 u u' g') (hne : g ≠ g') : RB u' g cap bs := h.keep (hb.block g h.lt hne)
theorem RB.run {u : World} {g cap : Nat} {bs : List UInt8} (h : RB u g cap bs) : (convert 24 9 (.slice (some ⟨g, 0, none⟩) bs.length cap)).run Try.prog u = .ok (.string ⟨bs.toArray⟩) u := by
  obtain ⟨cur, h1, h2, h3⟩ := h.row
  refine run_convert_bytes_back u 24 9 5 ⟨g, 0, none⟩ cap bs Try.underlying24 Try.underlying5 Try.underlying9 fun j hj => ?_
  have e : (⟨g, 0, none⟩ : Addr).add j = ⟨g, j, none⟩ := by cases j <;> simp [Addr.add]
  have h4 : (cur.toList.take bs.length)[j]? = some (.int .u8 (bs[j].toNat : Int)) := by rw [h3]; simp [Lib.byteCells, hj]
  rw [List.getElem?_take_of_lt hj, Array.getElem?_toList] at h4
  rw [e]
  simp [World.cell?, h1, h4]
theorem RB.spoil {u : World} {g cap : Nat} {bs : List UInt8} (h : RB u g cap bs) (hl : bs.length ≤ 1000000) :
    Calls Try.prog 20 #[.slice (some ⟨g, 0, none⟩) bs.length cap] u fun e w' => e = .returned (.tuple #[]) ∧ U1 u w' g := by
  obtain ⟨cur, h1, h2, h3⟩ := h.row
  refine lSpoil g bs.length cap u cur h1 h2 h.le h.max hl fun j hj => ?_
  have h4 : (cur.toList.take bs.length)[j]? = some (.int .u8 (bs[j].toNat : Int)) := by rw [h3]; simp [Lib.byteCells, hj]
  rw [List.getElem?_take_of_lt hj, Array.getElem?_toList] at h4
  exact ⟨_, h4⟩
theorem U1.below {w w' : World} {g B : Nat} (h : U1 w w' g) (hB : B ≤ w.heap.size) (hg : B ≤ g) : Below B w w' := ⟨h.os, h.tape, h.output, h.size, fun k hk => h.block k (by omega) (by omega)⟩
theorem fill_pos (n : Nat) : 0 < (Sha.fill n).length := by rw [fill_length]; omega
theorem fill_le (n : Nat) : (Sha.fill n).length ≤ 1000000 := by rw [fill_length]; omega
set_option maxRecDepth 100000 in
set_option maxHeartbeats 4000000 in
theorem fills_walk (n m : Nat) (w : World) (hn : n < 18446744073709551616) (hm : m < 18446744073709551616) :
    Calls Try.prog 4 #[.int .u64 n, .int .u64 m] w fun e w' => e = .returned (.bool true) ∧ Below w.heap.size w w' := by
  have M1 := hide (fun u => mFill n u hn)
  have M2 := hide (fun u => mFill m u hm)
  have D1 := hide (fun u => dFill n u)
  have D2 := hide (fun u => dFill m u)
  have p1 := fill_pos n
  have p2 := fill_pos m
  have q1 := fill_le n
  clear hn hm
  generalize Sha.fill n = F at *
  generalize Sha.fill m = G at *
  have P1 := hide p1
  have P2 := hide p2
  have Q1 := hide q1
  clear p1 p2 q1
  go_enter Try.func4, Try.ntmps4
  go_wp2_with fail
  refine (unhide M1 _).mono ?_
  rintro e w1 ⟨v1, rfl, ho⟩
  obtain ⟨g1, c1, rfl, hg1, hr1⟩ := RB.of ho (unhide P1)
  have B1 := hide ho.2
  have hws1 := ho.2.size
  have R1 := hide hr1
  clear ho hr1
  go_wp2_with fail
  refine (unhide D1 _).mono ?_
  rintro e w2 ⟨v2, rfl, ho⟩
  obtain ⟨g2, c2, rfl, hg2, hr2⟩ := RB.of ho (unhide P1)
  have B2 := hide ((unhide B1).trans (ho.2.mono (unhide B1).size))
  have R1' := hide ((unhide R1).below ho.2)
  have R2 := hide hr2
  have hne12 : g1 ≠ g2 := by have := (unhide R1).lt; omega
  have hx1 := (unhide R1').run
  have hx2 := (unhide R2).run
  clear ho hr2 B1 R1
  go_wp2_with fail
  clear hx1 hx2
  refine (unhide D2 _).mono ?_
  rintro e w3 ⟨v3, rfl, ho⟩
  obtain ⟨g3, c3, rfl, hg3, hr3⟩ := RB.of ho (unhide P2)
  have B3 := hide ((unhide B2).trans (ho.2.mono (unhide B2).size))
  have S1 := hide ((unhide R1').below ho.2)
  have S2 := hide ((unhide R2).below ho.2)
  have S3 := hide hr3
  have hne32 : g3 ≠ g2 := by have := (unhide R2).lt; omega
  have hx1 : (convert 24 9 (.slice (some ⟨g3, 0, none⟩) G.length c3)).run Try.prog w3.drew = .ok (.string ⟨G.toArray⟩) w3.drew := ((unhide S3).keep (u' := w3.drew) rfl).run
  clear ho hr3 B2 R1' R2
  have B3d := hide (belowDrewN' (unhide B3) 1)
  have S1d := hide ((unhide S1).keep (u' := w3.drew) rfl)
  have S2d := hide ((unhide S2).keep (u' := w3.drew) rfl)
  have S3d := hide ((unhide S3).keep (u' := w3.drew) rfl)
  go_wp2
  go_cut [31] from 19 to 31 (fun s31 wx => s31 = .bool false ∧ Hid (Below w.heap.size w wx ∧ RB wx g1 c1 F ∧ RB wx g2 c2 F ∧ RB wx g3 c3 G))
  case first =>
    go_region_with (go_at_call 18; refine (unhide M2 _).mono ?_; rintro e w4 ⟨v4, rfl, ho⟩; obtain ⟨g4, c4, rfl, hg4, hr4⟩ := RB.of ho (unhide P2); have B4 : Hid (Below w.heap.size w w4) := hide ((unhide B3d).trans (ho.2.mono (unhide B3).size)); have T1 := hide ((unhide S1d).below ho.2); have T2 := hide ((unhide S2d).below ho.2); have T3 := hide ((unhide S3d).below ho.2); have y1 := (unhide T1).run; have y2 := (unhide T2).run; have y3 := (unhide T3).run; have y4 := hr4.run; clear ho hr4)
    all_goals (try go_wp2_with fail)
    all_goals go_meet
    all_goals exact ⟨rfl, hide ⟨unhide B4, unhide T1, unhide T2, unhide T3⟩⟩
  case rest =>
    obtain ⟨rfl, HC⟩ := hcut
    clear hx1 B3 B3d S1 S2 S3 S1d S2d S3d
    go_wp2_with fail
    refine ((unhide HC).2.2.1.spoil (unhide Q1)).mono ?_
    rintro e w5 ⟨rfl, hu⟩
    have B5 := hide ((unhide HC).1.trans (hu.below (unhide HC).1.size (by omega)))
    have U1' := hide (((unhide HC).2.1.u1 hu hne12).keep (u' := w5.drew) rfl)
    have U3' := hide (((unhide HC).2.2.2.u1 hu hne32).keep (u' := w5.drew) rfl)
    have B5d := hide (belowDrewN' (unhide B5) 1)
    have z3 : (convert 24 9 (.slice (some ⟨g3, 0, none⟩) G.length c3)).run Try.prog w5.drew = .ok (.string ⟨G.toArray⟩) w5.drew := (unhide U3').run
    clear hu HC
    go_wp2
    go_cut [39] from 34 to 39 (fun s39 wx => s39 = .bool false ∧ Hid (Below w.heap.size w wx ∧ RB wx g1 c1 F))
    case first =>
      go_region_with (go_at_call 18; refine (unhide M2 _).mono ?_; rintro e w6 ⟨v6, rfl, ho⟩; obtain ⟨g6, c6, rfl, hg6, hr6⟩ := RB.of ho (unhide P2); have B6 : Hid (Below w.heap.size w w6) := hide ((unhide B5d).trans (ho.2.mono (unhide B5).size)); have V1 := hide ((unhide U1').below ho.2); have V3 := hide ((unhide U3').below ho.2); have y3 := (unhide V3).run; have y6 := hr6.run; clear ho hr6)
      all_goals (try go_wp2_with fail)
      all_goals go_meet
      all_goals exact ⟨rfl, hide ⟨unhide B6, unhide V1⟩⟩
    case rest =>
      obtain ⟨rfl, HC⟩ := hcut
      clear z3 U1' U3' B5 B5d
      have V1d := hide ((unhide HC).2.keep (u' := wc.drew) rfl)
      have B6d := hide (belowDrewN' (unhide HC).1 1)
      have z1 := (unhide V1d).run
      go_wp2
      go_region_with (go_at_call 19; refine (unhide D1 _).mono ?_; rintro e w7 ⟨v7, rfl, ho⟩; obtain ⟨g7, c7, rfl, hg7, hr7⟩ := RB.of ho (unhide P1); have B7 : Hid (Below w.heap.size w w7) := hide ((unhide B6d).trans (ho.2.mono (unhide HC).1.size)); have X1 := hide ((unhide V1d).below ho.2); have y1 := (unhide X1).run; have y7 := hr7.run; clear ho hr7)
      all_goals go_wp2
      all_goals go_ret
      all_goals exact ⟨rfl, unhide B7⟩
theorem fills_all (n m : Int) (w : World) (hn : 0 ≤ n ∧ n ≤ 18446744073709551615) (hm : 0 ≤ m ∧ m ≤ 18446744073709551615) :
    Calls Try.prog 4 #[.int .u64 n, .int .u64 m] w fun e w' => e = .returned (.bool true) ∧ Below w.heap.size w w' := by
  obtain ⟨A, rfl⟩ := Int.eq_ofNat_of_zero_le hn.1
  obtain ⟨B, rfl⟩ := Int.eq_ofNat_of_zero_le hm.1
  exact fills_walk A B w (by omega) (by omega)
end Go.Proofs.Ytpbifpbblinopaa
