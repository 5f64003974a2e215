/- JournalWhole: the journal is awake. -/
import Derived.Test.YtfdfbjijomepgaaDoorJfit
namespace Go.Proofs.YtfdfbjijomepgaaDoor
open Go.RowKit

def aw1 : Pg := ⟨1, 5, 0, ⟨#[97, 98]⟩⟩
def aw2 : Pg := ⟨2, 9, 0, ⟨#[]⟩⟩
def ad0 : D.Dk := D.Dk.blank 8
def ad1 : D.Dk := okPut ad0 2 7 [aw1, aw2]
theorem al0 : ad0.lies.length = 8 := List.length_replicate
theorem al1 : ad1.lies.length = 8 := len_of _ _ _ _ _ al0
theorem at0 : Lit ad0 := blank_lit 8 (by decide) (by decide)
theorem awBody : ∀ p ∈ [aw1, aw2], p.body.size ≤ 996 := fun p hp => by
  rcases List.mem_cons.1 hp with rfl | hp
  · decide
  · rw [List.mem_singleton.1 hp]; decide
theorem awFit : ∀ p ∈ [aw1, aw2], p.Fit := fun p hp => by
  rcases List.mem_cons.1 hp with rfl | hp
  · exact ⟨by decide, by decide, by decide⟩
  · rw [List.mem_singleton.1 hp]; exact ⟨by decide, by decide, by decide⟩
theorem awOk : wrongOk 7 [aw1, aw2] ((roomN 4 : Nat) : Int) := ⟨by decide, by decide, by decide, fun i hi _ => by
  obtain rfl : i = 0 := by simp at hi; omega
  show 5 < 9
  decide, awBody⟩
theorem at1 : Lit ad1 := okPut_lit at0 (by rw [al0]; decide) awBody (by decide)
theorem aPut : putJ ad0 2 4 7 [aw1, aw2] = (0, ad1) := put_full (f := 2) (c := 4) at0 (by decide) (by rw [al0]; decide) awOk
theorem aPre : Pre (pgOf ad0.lies) 2 4 7 [aw1, aw2] := pre_of at0 (by decide) (by rw [al0]; decide) (by rw [show ad0.lies = List.replicate 8 (D.zeros 1024) from rfl, topK_blank 8 2 4 (by decide)]; decide) awOk awFit
theorem aFound : batchOk (hdrOf (pgOf ad1.lies) 2) (slotsOf (pgOf ad1.lies) 2 4) ∧ batchL (hdrOf (pgOf ad1.lies) 2) (slotsOf (pgOf ad1.lies) 2 4) = withSer 7 [aw1, aw2] ∧ (hdrOf (pgOf ad1.lies) 2).ser = 7 ∧ topK (pgOf ad1.lies) 2 4 = 7 := Stp.full aPre (okPut_stp (by rw [al0]; decide) (by show 3 ≤ 4; decide))
set_option maxRecDepth 100000 in
set_option maxHeartbeats 4000000 in
theorem lAwake (w : World) (hT : Tab w) : Calls Tryd.prog 13 #[] w fun e w' => e = .returned (.bool true) ∧ Below w.heap.size w w' := by
  have HT := hide hT
  clear hT
  go_enter Tryd.func13, Tryd.ntmps13
  go_wp2_with fail
  refine (D.dNew 8 (by decide) (by decide) w).mono ?_
  rintro e w6 ⟨Dd, F6, rfl, hd6, hb6⟩
  have HS6 : Hid (Sd w w6 w.heap.size Dd F6 ad0 []) := by
    have hp := (unhide HT).pos
    exact ⟨hd6, hb6.size, by omega, (unhide HT).below hb6 hp, hb6, Nat.le_refl _, fun p hp => by cases hp⟩
  clear hd6 hb6
  obtain ⟨B, hB⟩ : ∃ B, B = w.heap.size := ⟨_, rfl⟩
  rw [← hB] at HS6
  have HBB := hide hB
  clear hB HT
  go_wp2_with fail
  have HL6 := hide ((unhide HS6).lit (.cells #[.int .u8 1, .int .u32 5, .int .u64 0, .string ⟨#[97, 98]⟩, .int .u8 2, .int .u32 9, .int .u64 0, .string ⟨#[]⟩] 70))
  refine (sPut (unhide HL6) at0.pend 2 4 (by decide) 7 7 rfl [aw1, aw2] awFit 2 rfl (by decide) _ _ (pgs_two aw1 aw2 ((unhide HL6).get 0 rfl)) ((unhide HL6).pgo 0 rfl) 0 ad1 aPut).mono ?_
  rintro e w7 ⟨rfl, F7, hA⟩
  have HS7 := hide hA.tail
  clear hA HS6 HL6
  go_wp2_with fail
  refine (sScanI (unhide HS7) at1 2 4 2 4 rfl rfl (by decide) (by rw [al1]; decide) 7 7 7 7 rfl rfl (withSer 7 [aw1, aw2]) 2 (by rw [withSer_len]; rfl) aFound).mono ?_
  rintro e wX ⟨GX, rfl, hG, hR, hA⟩
  have HSX := hide hA
  obtain ⟨NX, hN⟩ : ∃ N, N = wX.heap.size := ⟨_, rfl⟩
  have HNX := hide hN
  have HRX := hide hR
  have hix := ixPages GX 0 2 2 1 (by decide)
  have hix1 : ∀ W : World, (Instr.indexAt 25 (.slice (some ⟨GX, 0, none⟩) 2 2) (.int .i64 1)).run Tryd.prog W = .ok (.pointer (some ⟨GX, 4, none⟩)) W := hix
  have hq0 := eqlPg 1 5 7 ⟨#[97, 98]⟩
  have hq1 := eqlPg 2 9 7 ⟨#[]⟩
  clear hA HS7 hN hG hR hix
  go_wp2_with (first
    | (refine wpList_alloc_row (by rfl) 44 (by rfl) (some 4) (by rfl) NX (by exact (unhide HNX).symm) _ zeroFound ?_; intro W1X HX1 HC1 HS1; simp only [Act.put, List.setIfInBounds_toArray, List.set_cons_zero, List.set_cons_succ])
    | (refine wpList_store_hid (by rfl) 44 (.tmp 4) (.tmp 26) (by rfl) NX #[.int .u64 7, .bool true, .int .u64 7, .slice (some ⟨GX, 0, none⟩) 2 2] (by rfl) (by rfl) 44 _ (unhide HX1) foundInfo rfl (found_one _ _ _ _ _ _) ?_; intro WX HX2 HE2; simp only [Act.put]
       have HBX : Hid (Below wX.heap.size wX WX) := (by rw [unhide HE2]; have h1 := unhide HC1; rw [unhide HNX] at h1 ⊢; exact D.belowRow h1 (Nat.le_refl _) _)
       have HRW : Hid (Rp WX GX (withSer 7 [aw1, aw2])) := (unhide HRX).same ((unhide HBX).block GX (unhide HRX).lt)
       have x0 : WX.cell? ⟨NX, 0, none⟩ = some (.int .u64 7) := cellOf (unhide HX2) 0
       have x1 : WX.cell? ⟨NX, 1, none⟩ = some (.bool true) := cellOf (unhide HX2) 1
       have x2 : WX.cell? ⟨NX, 2, none⟩ = some (.int .u64 7) := cellOf (unhide HX2) 2
       have x3 : WX.cell? ⟨NX, 3, none⟩ = some (.slice (some ⟨GX, 0, none⟩) 2 2) := cellOf (unhide HX2) 3
       have p0 : WX.cell? ⟨GX, 0, none⟩ = some (.int .u8 1) := (unhide HRW).cell 0 (by decide) 0 (by decide)
       have p1 : WX.cell? ⟨GX, 1, none⟩ = some (.int .u32 5) := (unhide HRW).cell 0 (by decide) 1 (by decide)
       have p2 : WX.cell? ⟨GX, 2, none⟩ = some (.int .u64 7) := (unhide HRW).cell 0 (by decide) 2 (by decide)
       have p3 : WX.cell? ⟨GX, 3, none⟩ = some (.string ⟨#[97, 98]⟩) := (unhide HRW).cell 0 (by decide) 3 (by decide)
       have p4 : WX.cell? ⟨GX, 4, none⟩ = some (.int .u8 2) := (unhide HRW).cell 1 (by decide) 0 (by decide)
       have p5 : WX.cell? ⟨GX, 5, none⟩ = some (.int .u32 9) := (unhide HRW).cell 1 (by decide) 1 (by decide)
       have p6 : WX.cell? ⟨GX, 6, none⟩ = some (.int .u64 7) := (unhide HRW).cell 1 (by decide) 2 (by decide)
       have p7 : WX.cell? ⟨GX, 7, none⟩ = some (.string ⟨#[]⟩) := (unhide HRW).cell 1 (by decide) 3 (by decide))
    | fail)
  have HSW := hide ((unhide HSX).below (unhide HBX))
  clear HSX HRX HNX HX1 HC1 HS1 HE2 HX2 HRW
  refine (D.kPendingD (unhide HSW).dsk).mono ?_
  rintro e u9 ⟨rfl, hw⟩
  obtain rfl := hw.symm
  rw [at1.pend]
  go_wp2
  go_ret
  exact ⟨rfl, (unhide HSW).bel⟩
end Go.Proofs.YtfdfbjijomepgaaDoor
