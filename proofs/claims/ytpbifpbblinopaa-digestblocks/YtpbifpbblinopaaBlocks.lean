/- The walk of DigestBlocks. -/
import Derived.Test.YtpbifpbblinopaaBlk
import Derived.Test.YtpbifpbblinopaaLent
import Derived.Test.YtpbifpbblinopaaEq
namespace Go.Proofs.Ytpbifpbblinopaa
open Go.RowKit

/-- what Block answers -/
def blkR (s : Sha.St) (bs : List UInt8) : Array Value × Int := if bs.length = 64 then (St8 (Sha.mix s bs), 0) else (Z8, 1)
theorem blkR_size (s : Sha.St) (bs : List UInt8) : (blkR s bs).1.size = 8 := by unfold blkR; split <;> rfl
theorem Z8_int : ∀ j, j < 8 → ∃ k x, Z8[j]? = some (.int k x) := fun j hj => ⟨.u32, 0, by rw [Z8, List.getElem?_toArray, List.getElem?_replicate, if_pos hj]⟩
theorem St8_int (s : Sha.St) : ∀ j, j < 8 → ∃ k x, (St8 s)[j]? = some (.int k x) := fun j hj => ⟨.u32, _, St8_at s j hj⟩
theorem blkR_int (s : Sha.St) (bs : List UInt8) : ∀ j, j < 8 → ∃ k x, (blkR s bs).1[j]? = some (.int k x) := by
  unfold blkR; split
  · exact St8_int _
  · exact Z8_int
theorem blkR_one (s : Sha.St) (bs : List UInt8) : (blkR s bs).1.all (·.oneCell') = true := by
  unfold blkR; split
  · exact St8_one _
  · kernel_rfl
theorem mBlockR (s : Sha.St) (hs : Ok s) (bs : List UInt8) (ao : Option Addr) (cap : Nat) (u : World) (h : Lies u ao bs) :
    Calls Try.prog 13 #[.agg (St8 s), .slice ao bs.length cap] u fun e w' => e = .returned (.tuple #[.agg (blkR s bs).1, .int .i64 (blkR s bs).2]) ∧ Below u.heap.size u w' := by
  unfold blkR
  by_cases h64 : bs.length = 64
  · rw [if_pos h64]
    obtain ⟨g, o, rfl, h2, h3⟩ := h (by omega)
    have := mBlock64 (lfB bs) (lfB_lt _) s hs g o cap u h2 (fun j hj => by rw [h3 j (by omega)]; simp [lfB, List.getD, List.getElem?_eq_getElem (show j < bs.length by omega)])
    rw [mix_lfB] at this
    rw [h64]
    exact this
  · rw [if_neg h64]
    exact mBlockNo _ _ _ _ h64 u
theorem dBlockR (s : Sha.St) (hs : Ok s) (bs : List UInt8) (ao : Option Addr) (cap : Nat) (u : World) (h : Lies u ao bs) :
    Calls Try.prog 14 #[.agg (St8 s), .slice ao bs.length cap] u fun e w' => e = .returned (.tuple #[.agg (blkR s bs).1, .int .i64 (blkR s bs).2]) ∧ Below u.heap.size u w' := by
  unfold blkR
  by_cases h64 : bs.length = 64
  · rw [if_pos h64]
    obtain ⟨g, o, rfl, h2, h3⟩ := h (by omega)
    rw [h64]
    exact dBlock64 bs h64 s hs g o cap u h2 h3
  · rw [if_neg h64]
    exact dBlockNo _ _ _ _ h64 u
theorem BR.set {w u : World} {g c : Nat} {bs : List UInt8} (h : BR w u g c bs) (i : Nat) (y : UInt8) : BR w (u.setCell ⟨g, i, none⟩ (.int .u8 (y.toNat : Int))) g c (bs.set i y) := by
  obtain ⟨cur, fr, h1, h2, h3, h4⟩ := h.row
  refine ⟨⟨_, fr, heapCell_same h1 _ _, by simpa using h2, ?_, ?_⟩, h.ge, by simpa using h.le, h.max, belowCell h.bel h.ge _⟩
  · rw [List.length_set, Array.toList_setIfInBounds, List.take_set, h3]
    simp [Lib.byteCells, List.map_set]
  · intro j hj
    rw [← h4 j hj]
    simp only [World.frozen?, heapCell_same h1 i (.int .u8 (y.toNat : Int)), h1]
theorem BR.writable {w u : World} {g c : Nat} {bs : List UInt8} (h : BR w u g c bs) (i : Nat) (hi : i < bs.length) : u.frozen? ⟨g, i, none⟩ = false := by
  obtain ⟨cur, fr, h1, h2, h3, h4⟩ := h.row
  exact h4 i (by have := h.le; omega)
theorem xor129 (x : UInt8) : ∃ y : UInt8, bits .xor .u8 (x.toNat : Int) 129 = (y.toNat : Int) := by
  have h : ∀ x : Fin 256, ∃ y : Fin 256, bits .xor .u8 (x.1 : Int) 129 = (y.1 : Int) := by decide +kernel
  obtain ⟨y, hy⟩ := h ⟨x.toNat, UInt8.toNat_lt x⟩
  exact ⟨UInt8.ofNat y.1, by rw [UInt8.toNat_ofNat', Nat.mod_eq_of_lt y.2]; exact hy⟩
set_option maxRecDepth 100000 in
set_option maxHeartbeats 2000000 in
theorem blocks_walk (s : Sha.St) (hs : Ok s) (bs : List UInt8) (ao : Option Addr) (cap : Nat) (w : World) (h : Lies w ao bs) (hl : bs.length ≤ 140737488355200) :
    Calls Try.prog 3 #[.agg (St8 s), .slice ao bs.length cap] w fun e w' => e = .returned (.bool true) ∧ Below w.heap.size w w' := by
  obtain ⟨b, hbw⟩ : ∃ b, b = w.heap.size := ⟨_, rfl⟩
  have HBW := hide hbw
  clear hbw
  obtain ⟨n, hn⟩ : ∃ n, n = bs.length := ⟨_, rfl⟩
  have hni : (n : Int) ≤ 140737488355200 := by omega
  have HL := hide (fun (u : World) (hb : Below w.heap.size w u) => lLent bs ao cap u (h.keep hb (Nat.le_refl _)) hl)
  rw [← hn] at HL ⊢
  have HN := hide hn
  have HS := hide hs
  have hu := Try.underlying23
  have hqs := eqSt (St8 Sha.start) (St8_int _)
  clear hn h hs hl
  go_enter Try.func3, Try.ntmps3
  go_wp2_with (refine wpList_box_row (by rfl) 23 (.tmp 0) (by rfl) (some 2) (by rfl) b (by exact (unhide HBW).symm) (St8 s) (by rfl) ?_; intro W1 HR1 HB1 HS1)
  refine (unhide HL W1 (by rw [← unhide HBW]; exact unhide HB1)).mono ?_
  rintro e W2 ⟨g, c, rfl, hbr⟩
  have HI2 : Hid (∃ cs : List UInt8, cs.length = n ∧ BR W1 W2 g c (cs ++ mks 66)) := ⟨bs, (unhide HN).symm, hbr⟩
  clear hbr HL
  go_wp2
  go_loopw [6] (fun vi wr => ∃ k : Nat, k ≤ 2 ∧ vi = .int .i64 k ∧ Hid (∃ cs : List UInt8, cs.length = n ∧ BR W1 wr g c (cs ++ mks 66))) (fun vi _ => 2 - (intOf vi).toNat)
  case atStart => exact ⟨0, Nat.zero_le _, rfl, HI2⟩
  case round =>
    clear HI2
    obtain ⟨k, hk, rfl, HI⟩ := hrel
    obtain ⟨cs, hcs, hbr⟩ := unhide HI
    have HBR := hide hbr
    have HCS := hide hcs
    by_cases hlt : k < 2
    · have hki : (k : Int) < 2 := by omega
      obtain ⟨g2, c2, W3, hrun, hbr3, _, _⟩ := (BR.nothing wr).put 24 (some ⟨g, 0, none⟩) c n cs hcs.symm (hbr.front.lies.below ((Below.refl _ _).alloc (Nat.le_refl _) _)) (by simp; omega)
      simp only [List.length_nil, Nat.zero_add, List.nil_append, hcs] at hrun hbr3
      have HB3 := hide hbr3
      have HA3 := hide (hbr.below hbr3.bel)
      have hrow3 : W3.heap[b]? = some (.cells (St8 s) 23 (0, 0)) := by
        have hs1 := unhide HS1
        rw [(unhide HA3).bel.block b (by omega)]; exact unhide HR1
      have HROW3 := hide hrow3
      have HM := hide (fun (u : World) (hb : Below W3.heap.size W3 u) => mBlockR s (unhide HS) cs (some ⟨g2, 0, none⟩) c2 u ((unhide HB3).lies.below hb))
      have HD := hide (fun (u : World) (hb : Below W3.heap.size W3 u) => dBlockR s (unhide HS) cs (some ⟨g, 0, none⟩) c u ((unhide HA3).front.lies.below hb))
      have HKP := hide (fun (u : World) (hb : Below W3.heap.size W3 u) => lKept cs g c (some ⟨g2, 0, none⟩) c2 W1 u ((unhide HA3).below hb) ((unhide HB3).lies.below hb) (by rw [hcs]; omega))
      rw [hcs] at HM HD HKP
      have hqR := eqSt (blkR s cs).1 (blkR_int s cs)
      have hRs := blkR_size s cs
      have hR1 := blkR_one s cs
      have hRi : (Try.prog.info? 23).map (·.size) = some (blkR s cs).1.size := by rw [hRs]; exact info8
      have hRz : Z8.size = (blkR s cs).1.size := by rw [hRs]; rfl
      clear hbr hbr3 hcs HI hrow3 hRs
      generalize blkR s cs = R at *
      obtain ⟨RA, RE⟩ := R
      dsimp only at *
      go_wp2_with (first | (at_builtin; refine Lib.wpList_append_run _ rfl (.tmp 19) (.tmp 20) 24 24 rfl _ _ rfl rfl _ _ hrun ?_) | (refine wpList_load_row rfl 23 (.tmp 2) rfl b rfl 23 (St8 s) (0, 0) _ (unhide HROW3) hu rfl info8 ?_))
      refine (unhide HM _ (Below.refl _ _)).mono ?_
      rintro e W4 ⟨rfl, hb4⟩
      have HB4 := hide hb4
      have HROW4 : Hid (W4.heap[b]? = some (.cells (St8 s) 23 (0, 0))) := (hb4.block b (Array.getElem?_eq_some_iff.1 (unhide HROW3)).1).trans (unhide HROW3)
      clear hb4 hrun
      generalize hm1 : W4.heap.size = m1
      have HM1 := hide hm1
      clear hm1
      go_wp2_with (first | (refine wpList_alloc_row (by rfl) 23 (by rfl) (some 8) (by rfl) m1 (by exact unhide HM1) Z8 zero8 ?_; intro W5 HR5 HB5 HS5) | (refine wpList_store_u1 rfl 23 (.tmp 8) (.tmp 26) rfl m1 RA rfl rfl 23 Z8 (unhide HR5) hRi hRz hR1 ?_; intro W6 HR6 HU6; have HP6 : Hid (Below W3.heap.size W3 W6 ∧ W6.heap[b]? = some (.cells (St8 s) 23 (0, 0)) ∧ m1 < W6.heap.size) := (by
        have h4 := unhide HB4
        have h5 := unhide HB5
        have hm := unhide HM1
        have hs5 := unhide HS5
        have hu6 := unhide HU6
        have hbl := (Array.getElem?_eq_some_iff.1 (unhide HROW4)).1
        have h4s := h4.size
        refine ⟨(h4.trans (h5.mono (by omega))).trans (hu6.toBelow (by omega) (by omega)), ?_, (Array.getElem?_eq_some_iff.1 (unhide HR6)).1⟩
        rw [hu6.block b (by omega) (by omega), h5.block b (by omega)]
        exact unhide HROW4)) | (refine wpList_load_row rfl 23 (.tmp 2) rfl b rfl 23 (St8 s) (0, 0) _ (unhide HP6).2.1 hu rfl info8 ?_))
      refine (unhide HD _ (unhide HP6).1).mono ?_
      rintro e W7 ⟨rfl, hb7⟩
      have HP7 : Hid (Below W3.heap.size W3 W7 ∧ W7.heap[m1]? = some (.cells RA 23 (0, 0)) ∧ m1 < W7.heap.size) := by
        have h6 := unhide HP6
        refine ⟨h6.1.trans (hb7.mono h6.1.size), (hb7.block m1 h6.2.2).trans (unhide HR6), by have := hb7.size; omega⟩
      clear hb7 HR5 HB5 HS5 HR6 HU6 HP6 HROW4 HB4 HM1 HROW3 HM HD
      generalize hm2 : W7.heap.size = m2
      have HM2 := hide hm2
      clear hm2
      go_wp2_with (first | (refine wpList_alloc_row (by rfl) 23 (by rfl) (some 10) (by rfl) m2 (by exact unhide HM2) Z8 zero8 ?_; intro W8 HR8 HB8 HS8) | (refine wpList_store_u1 rfl 23 (.tmp 10) (.tmp 32) rfl m2 RA rfl rfl 23 Z8 (unhide HR8) hRi hRz hR1 ?_; intro W9 HR9 HU9; have HP9 : Hid (Below W3.heap.size W3 W9 ∧ W9.heap[m1]? = some (.cells RA 23 (0, 0))) := (by
        have h7 := unhide HP7
        have h8 := unhide HB8
        have hm := unhide HM2
        have hs8 := unhide HS8
        have hu9 := unhide HU9
        have h7s := h7.1.size
        refine ⟨(h7.1.trans (h8.mono (by omega))).trans (hu9.toBelow (by omega) (by omega)), ?_⟩
        rw [hu9.block m1 (by omega) (by omega), h8.block m1 (by omega)]
        exact (unhide HP7).2.1)) | (refine wpList_load_row rfl 23 (.tmp 10) rfl m2 rfl 23 RA (0, 0) _ (unhide HR9) hu rfl hRi ?_) | (refine wpList_load_row rfl 23 (.tmp 8) rfl m1 rfl 23 RA (0, 0) _ (unhide HP9).2 hu rfl hRi ?_))
      refine (unhide HKP _ (unhide HP9).1).mono ?_
      rintro e WA ⟨rfl, rfl⟩
      have HX : Hid (∃ cs : List UInt8, cs.length = n ∧ BR W1 WA g c (cs ++ mks 66)) := ⟨cs, unhide HCS, (unhide HA3).below (unhide HP9).1⟩
      clear HKP HP9 HP7 HR8 HB8 HS8 HR9 HU9 HM2 HA3 HB3 hqR hRi hRz hR1 HBR HCS
      go_wp2
      go_loopw [12] (fun vi wr => ∃ i : Nat, i ≤ n ∧ vi = .int .i64 i ∧ Hid (∃ cs : List UInt8, cs.length = n ∧ BR W1 wr g c (cs ++ mks 66))) (fun vi _ => n - (intOf vi).toNat)
      case atStart => exact ⟨0, Nat.zero_le _, rfl, HX⟩
      case round =>
        clear HX
        obtain ⟨i, hi, rfl, HX⟩ := hrel
        by_cases hin : i < n
        · have hii : (i : Int) < (n : Int) := by omega
          obtain ⟨ds, hds, hbr⟩ := unhide HX
          have hlen : i < (ds ++ mks 66).length := by rw [List.length_append]; omega
          have hce := hbr.cell i hlen
          have hfz := hbr.writable i hlen
          obtain ⟨y, hy⟩ := xor129 (ds ++ mks 66)[i]
          have HNX : Hid (∃ cs : List UInt8, cs.length = n ∧ BR W1 (wr.setCell ⟨g, i, none⟩ (.int .u8 (y.toNat : Int))) g c (cs ++ mks 66)) := by
            refine ⟨ds.set i y, by simpa using hds, ?_⟩
            have := hbr.set i y
            rwa [List.set_append_left _ _ (by omega)] at this
          generalize ((ds ++ mks 66)[i].toNat : Int) = xi at *
          clear hbr hds HX hlen
          go_wp2
          go_roundw
          case rel => exact ⟨i + 1, by omega, by go_num, hide (unhide HNX)⟩
          case measure => simp [intOf]; omega
        · go_wp2
          go_roundw
          case rel => exact ⟨k + 1, by omega, by go_num, hide (unhide HX)⟩
          case measure => simp [intOf]; omega
    · have HBL := hide hbr.bel
      clear hbr HBR HI
      go_wp2_with fail
      refine (dStart _).mono ?_
      rintro e W3 ⟨rfl, hb3⟩
      have HB3 := hide hb3
      clear hb3
      go_wp2_with fail
      refine (mStart _).mono ?_
      rintro e W4 ⟨rfl, hb4⟩
      have HB4 := hide hb4
      clear hb4
      go_wp2
      go_ret
      have hbw := unhide HBW
      have hs1 := unhide HS1
      have h1 := unhide HB1
      have h2 := unhide HBL
      have h3 := unhide HB3
      refine ⟨rfl, ?_⟩
      rw [← hbw]
      exact ((h1.trans (h2.mono (by omega))).trans (h3.mono (by have := h2.size; omega))).trans ((unhide HB4).mono (by have := h2.size; have := h3.size; omega))
end Go.Proofs.Ytpbifpbblinopaa
