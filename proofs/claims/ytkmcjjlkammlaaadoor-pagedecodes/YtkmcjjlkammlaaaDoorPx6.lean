/- The walk of PageDecodes. -/
import Derived.Test.YtkmcjjlkammlaaaDoorPm6
import Derived.Test.YtkmcjjlkammlaaaDoorPe6
import Derived.Test.YtkmcjjlkammlaaaDoorPo
namespace Go.Proofs.YtkmcjjlkammlaaaDoor
open Go.RowKit

theorem Xb.other {w u : World} {X g k : Nat} {cs : Array Value} {v : Value} (h : Xb w u X cs) (hg : X ≠ g) (hw : w.heap.size ≤ g) : Xb w (u.setCell ⟨g, k, none⟩ v) X cs :=
  ⟨fun j => by rw [← h.x j]; simp only [World.cell?, Deep.blk_setCell_other u ⟨g, k, none⟩ v X hg], by simpa [World.setCell] using h.xl, h.bel.trans ⟨rfl, rfl, rfl, by simp [World.setCell], fun q hq => Deep.blk_setCell_other u ⟨g, k, none⟩ v q (fun e => by have h5 : q = g := e; omega)⟩⟩
theorem BR.liq {w u : World} {g c : Nat} {l : List UInt8} (h : BR w u g c (l ++ mks 66)) (j : Nat) (hj : j < l.length) : u.cell? ⟨g, j, none⟩ = some (.int .u8 (l[j].toNat : Int)) ∧ u.frozen? ⟨g, j, none⟩ = false := by
  obtain ⟨cur, fr, h1, h2, h3, h4⟩ := h.row
  exact ⟨h.front.cell j hj, h4 j (by have := h.le; rw [List.length_append] at this; omega)⟩
set_option maxRecDepth 100000 in
set_option maxHeartbeats 4000000 in
theorem decodes_walk (l : List UInt8) (ao : Option Addr) (cap num : Nat) (w : World) (hl : LiesB w ao l) (hsz : l.length ≤ 140737488351232) (hT : Tab w)
    (hMD : ∀ (l : List UInt8) (u : World), Calls Tryd.prog 13 #[.string ⟨l.toArray⟩, .int .u32 (num : Int)] u fun e w' => e = .returned (.tuple #[.agg (dec l num).1.cs, .int .i64 (dec l num).2]) ∧ Below u.heap.size u w') :
    Calls Tryd.prog 4 #[.slice ao l.length cap, .int .u32 (num : Int)] w fun e w' => e = .returned (.bool true) ∧ Below w.heap.size w w' := by
  have HT := hide hT
  have HMD := hide hMD
  have HLe := hide (lLent l ao cap w hl (by omega))
  have hli : (l.length : Int) ≤ 140737488351232 := by omega
  have HSZ := hide hsz
  clear hl hT hMD hsz
  go_enter Tryd.func4, Tryd.ntmps4
  go_wp2_with fail
  refine (unhide HLe).mono ?_
  rintro e w1 ⟨g, c, rfl, hbr⟩
  have HBR := hide hbr
  clear hbr HLe
  go_wp2_with fail
  go_loopw [6] (fun vt wr => ∃ (k : Nat) (l2 : List UInt8), k ≤ 2 ∧ vt = .int .i64 k ∧ l2.length = l.length ∧ Hid (BR w wr g c (l2 ++ mks 66))) (fun vt _ => 2 - (intOf vt).toNat)
  case atStart => exact ⟨0, l, Nat.zero_le _, rfl, rfl, HBR⟩
  case round =>
    clear HBR
    obtain ⟨k, l2, hk, rfl, hl2, HI⟩ := hrel
    by_cases hlt : k < 2
    · have hki : (k : Int) < 2 := by omega
      obtain ⟨g2, c2, W2, hrun, hbr2, hu2, hor⟩ := (BR.nothing wr).put 29 (some ⟨g, 0, none⟩) c l.length l2 hl2.symm ((unhide HI).front.lies.below ((Below.refl _ _).alloc (Nat.le_refl _) _)) (by have := unhide HSZ; simp; omega)
      simp only [List.length_nil, Nat.zero_add, List.nil_append] at hrun hbr2
      rw [hl2] at hrun
      have HB2 := hide hbr2
      have HI2 := hide ((unhide HI).below hbr2.bel)
      clear hbr2 hu2 hor HI
      have hcv := conv_liesE (unhide HB2).lies l.length c2 hl2.symm
      have HM := hide (unhide HMD l2)
      have HP := hide (fun u (hu : Tab u) (hb : LiesB u (some ⟨g, 0, none⟩) l2) => pDecAny l2 (some ⟨g, 0, none⟩) c num u hb hu)
      rw [hl2] at HP
      generalize dec l2 num = dq at *
      obtain ⟨q, eq⟩ := dq
      simp only at HM HP
      have EQ : q.cs = #[.int .u8 (q.kind : Int), .int .u32 (q.num : Int), .int .u64 (q.ser : Int), .string q.body] := rfl
      rw [EQ] at HM HP
      clear EQ
      generalize q.kind = kd at *
      generalize q.num = nm at *
      generalize q.ser = sr at *
      generalize q.body = bd at *
      have HV := hide hcv
      go_wp2_with (at_builtin; refine Lib.wpList_append_run _ rfl (.tmp 19) (.tmp 20) 29 29 rfl _ _ rfl rfl _ _ hrun ?_)
      refine (unhide HM _).mono ?_
      rintro e w3 ⟨rfl, hb⟩
      have HI3 := hide ((unhide HI2).below hb)
      have HB3 := hide ((unhide HB2).below hb)
      clear hb HM HI2 HB2 HV hcv hrun
      have HG3 := hide (unhide HI3).lt
      have HQ : Hid (Xb w (w3.alloc (.cells #[.int .u8 (kd : Int), .int .u32 (nm : Int), .int .u64 (sr : Int), .string bd] 25)) w3.heap.size #[.int .u8 (kd : Int), .int .u32 (nm : Int), .int .u64 (sr : Int), .string bd]) := ⟨(Xb.start w3 #[.int .u8 (kd : Int), .int .u32 (nm : Int), .int .u64 (sr : Int), .string bd] 25).x, (Xb.start w3 #[.int .u8 (kd : Int), .int .u32 (nm : Int), .int .u64 (sr : Int), .string bd] 25).xl, (unhide HI3).bel.trans ((Xb.start w3 #[.int .u8 (kd : Int), .int .u32 (nm : Int), .int .u64 (sr : Int), .string bd] 25).bel.mono (unhide HI3).bel.size)⟩
      have HI := hide ((unhide HI3).below (Xb.start w3 #[.int .u8 (kd : Int), .int .u32 (nm : Int), .int .u64 (sr : Int), .string bd] 25).bel)
      have HB := hide ((unhide HB3).below (Xb.start w3 #[.int .u8 (kd : Int), .int .u32 (nm : Int), .int .u64 (sr : Int), .string bd] 25).bel)
      clear HI3 HB3
      go_wp2_with fail
      generalize (w3.alloc (.cells #[.int .u8 (kd : Int), .int .u32 (nm : Int), .int .u64 (sr : Int), .string bd] 25)) = u3 at *
      refine (unhide HP _ ((unhide HT).below (unhide HI).bel (unhide HT).pos) (unhide HI).front.liesB).mono ?_
      rintro e w4 ⟨rfl, hb⟩
      have HI4 := hide ((unhide HI).below hb)
      have HB4 := hide ((unhide HB).below hb)
      have HQ4 := hide ((unhide HQ).below hb)
      clear hb HP HI HB HQ
      have HG4 := hide (unhide HI4).lt
      have HR : Hid (Xb w (w4.alloc (.cells #[.int .u8 (kd : Int), .int .u32 (nm : Int), .int .u64 (sr : Int), .string bd] 25)) w4.heap.size #[.int .u8 (kd : Int), .int .u32 (nm : Int), .int .u64 (sr : Int), .string bd]) := ⟨(Xb.start w4 #[.int .u8 (kd : Int), .int .u32 (nm : Int), .int .u64 (sr : Int), .string bd] 25).x, (Xb.start w4 #[.int .u8 (kd : Int), .int .u32 (nm : Int), .int .u64 (sr : Int), .string bd] 25).xl, (unhide HI4).bel.trans ((Xb.start w4 #[.int .u8 (kd : Int), .int .u32 (nm : Int), .int .u64 (sr : Int), .string bd] 25).bel.mono (unhide HI4).bel.size)⟩
      have HI := hide ((unhide HI4).below (Xb.start w4 #[.int .u8 (kd : Int), .int .u32 (nm : Int), .int .u64 (sr : Int), .string bd] 25).bel)
      have HB := hide ((unhide HB4).below (Xb.start w4 #[.int .u8 (kd : Int), .int .u32 (nm : Int), .int .u64 (sr : Int), .string bd] 25).bel)
      have HQ := hide ((unhide HQ4).below (Xb.start w4 #[.int .u8 (kd : Int), .int .u32 (nm : Int), .int .u64 (sr : Int), .string bd] 25).bel)
      clear HI4 HB4
      have HXX : Hid (w3.heap.size ≠ g ∧ w4.heap.size ≠ g) := ⟨by have := unhide HG3; omega, by have := unhide HG4; omega⟩
      clear HG3 HG4
      have hxl2 := (unhide HQ4).xl
      have x0 := (unhide HQ4).x 0
      have x1 := (unhide HQ4).x 1
      have x2 := (unhide HQ4).x 2
      have x3 := (unhide HQ4).x 3
      simp only [List.getElem?_toArray, List.getElem?_cons_zero, List.getElem?_cons_succ] at x0 x1 x2 x3
      have n0 := (unhide HQ).x 0
      have n1 := (unhide HQ).x 1
      have n2 := (unhide HQ).x 2
      have n3 := (unhide HQ).x 3
      simp only [List.getElem?_toArray, List.getElem?_cons_zero, List.getElem?_cons_succ] at n0 n1 n2 n3
      go_wp2_with fail
      clear x0 x1 x2 x3 n0 n1 n2 n3 hxl2 HQ4
      generalize (w4.alloc (.cells #[.int .u8 (kd : Int), .int .u32 (nm : Int), .int .u64 (sr : Int), .string bd] 25)) = u4 at *
      have HK := hide (lKept l2 g c (some ⟨g2, 0, none⟩) c2 w u4 (unhide HI) (unhide HB).lies (by have := unhide HSZ; omega))
      rw [hl2] at HK
      refine (unhide HK).mono ?_
      rintro e w5 ⟨rfl, rfl⟩
      clear HK HB
      go_wp2_with fail
      generalize w3.heap.size = X1 at *
      generalize w4.heap.size = X2 at *
      go_loopw [12] (fun vi wq => ∃ (j : Nat) (l3 : List UInt8), j ≤ l.length ∧ vi = .int .i64 j ∧ l3.length = l.length ∧ Hid (BR w wq g c (l3 ++ mks 66)) ∧ Hid (Xb w wq X1 #[.int .u8 (kd : Int), .int .u32 (nm : Int), .int .u64 (sr : Int), .string bd]) ∧ Hid (Xb w wq X2 #[.int .u8 (kd : Int), .int .u32 (nm : Int), .int .u64 (sr : Int), .string bd])) (fun vi _ => l.length - (intOf vi).toNat)
      case atStart => exact ⟨0, l2, Nat.zero_le _, rfl, hl2, HI, HQ, HR⟩
      case round =>
        clear HI HQ HR
        obtain ⟨j, l3, hj, rfl, hl3, HI, HQ, HR⟩ := hrel
        by_cases hjl : j < l.length
        · have hji : (j : Int) < (l.length : Int) := by omega
          obtain ⟨hc, hf⟩ := (unhide HI).liq j (by omega)
          obtain ⟨y, hy⟩ := xor_one (l3[j]'(by omega))
          have HIn := hide ((unhide HI).set j y)
          rw [List.set_append_left _ _ (by omega)] at HIn
          have HQn := hide ((unhide HQ).other (k := j) (v := .int .u8 (y.toNat : Int)) (unhide HXX).1 (unhide HI).ge)
          have HRn := hide ((unhide HR).other (k := j) (v := .int .u8 (y.toNat : Int)) (unhide HXX).2 (unhide HI).ge)
          have HL3 : Hid ((l3.set j y).length = l.length) := by show _ = _; rw [List.length_set]; exact hl3
          generalize l3.set j y = l4 at *
          generalize (l3[j]'(by omega)).toNat = xo at *
          generalize y.toNat = yn at *
          clear HI HQ HR hl3
          go_wp2
          go_roundw
          case rel => exact ⟨j + 1, l4, by omega, by go_num, unhide HL3, hide (unhide HIn), hide (unhide HQn), hide (unhide HRn)⟩
          case measure => simp [intOf]; omega
        · have hjj : j = l.length := by omega
          subst hjj
          have x0 := (unhide HQ).x 0
          have x1 := (unhide HQ).x 1
          have x2 := (unhide HQ).x 2
          have x3 := (unhide HQ).x 3
          simp only [List.getElem?_toArray, List.getElem?_cons_zero, List.getElem?_cons_succ] at x0 x1 x2 x3
          have n0 := (unhide HR).x 0
          have n1 := (unhide HR).x 1
          have n2 := (unhide HR).x 2
          have n3 := (unhide HR).x 3
          simp only [List.getElem?_toArray, List.getElem?_cons_zero, List.getElem?_cons_succ] at n0 n1 n2 n3
          go_wp2
          clear x0 x1 x2 x3 n0 n1 n2 n3
          go_roundw
          case rel => exact ⟨k + 1, l3, by omega, by go_num, hl3, HI⟩
          case measure => simp [intOf]; omega
    · go_wp2
      go_ret
      exact ⟨rfl, (unhide HI).bel⟩
theorem decodes_all (l : List UInt8) (ao : Option Addr) (cap : Nat) (num : Int) (h0 : 0 ≤ num) (h1 : num < 4294967296) (w : World) (hl : LiesB w ao l) (hsz : l.length ≤ 140737488351232) (hT : Tab w) :
    Calls Tryd.prog 4 #[.slice ao l.length cap, .int .u32 num] w fun e w' => e = .returned (.bool true) ∧ Below w.heap.size w w' := by
  obtain ⟨n, rfl⟩ := Int.eq_ofNat_of_zero_le h0
  exact decodes_walk l ao cap n w hl hsz hT (fun l u => mDecAny l n (by omega) u)
end Go.Proofs.YtkmcjjlkammlaaaDoor
