/- Of and Cut, by the document. -/
import Derived.Test.YtpbifpbblinopaaBr
import Derived.Test.YtpbifpbblinopaaHsF
import Derived.Test.YtpbifpbblinopaaShN
namespace Go.Proofs.Ytpbifpbblinopaa
open Go.RowKit

theorem cutMid (g n c p : Nat) (hp : p + 64 ≤ n) (hc : n ≤ c) (W : World) : (Instr.slice 24 (.slice (some ⟨g, 0, none⟩) n c) (some (.int .i64 (p : Int))) (some (.int .i64 ((p : Int) + 64))) none).run Try.prog W = .ok (.slice (some ⟨g, p, none⟩) 64 (c - p)) W := by
  rw [run_slice_lh W 24 _ _ _ bytesUnd .i64 .i64 (p : Int) ((p : Int) + 64) (by omega) (by omega) (by omega), bytesSize]
  simp only [Result.andThen_ok, sliced, Int.toNat_natCast, Nat.mul_one]
  rw [if_neg (by omega), Option.map_some, Addr.add_mid, Nat.zero_add, show ((p : Int) + 64).toNat - p = 64 from by omega]
theorem absorb_blocks (L : List UInt8) (N : Nat) (h : L.length = 64 * N) : Sha.absorb L = Sha.blocks N Sha.start L := by
  unfold Sha.absorb; rw [h, show 64 * N / 64 = N from by omega]
def Z8 : Array Value := (List.replicate 8 (Value.int .u32 0)).toArray
theorem zeroW : ((Try.prog.info? 62).bind (·.zero)).map (·.cells) = some Z64 := by kernel_rfl
theorem zero8 : ((Try.prog.info? 23).bind (·.zero)).map (·.cells) = some Z8 := by kernel_rfl
set_option maxRecDepth 100000 in
set_option maxHeartbeats 2000000 in
theorem mOf (s : ByteArray) (hs : s.size ≤ 140737488351232) (w : World) : Calls Try.prog 24 #[.string s] w fun e w' => e = .returned (.agg (ofCells s.data.toList)) ∧ Below w.heap.size w w' := by
  obtain ⟨b, hbw⟩ : ∃ b, b = w.heap.size := ⟨_, rfl⟩
  have HBW := hide hbw
  clear hbw
  have hus := Try.underlying38
  have hl := list_size s
  have hs0 : (s.size : Int) ≤ 140737488351232 := by omega
  obtain ⟨i0, hi, hz0, hz1, hz2⟩ := info_parts infoU8
  have HFL : Hid ((Sha.fill s.size).length ≤ 72 ∧ 0 < (Sha.fill s.size).length ∧ (s.size + (Sha.fill s.size).length) % 64 = 0) := by
    have := Sha.fill_len s.size
    exact ⟨by omega, by omega, by omega⟩
  have HF := hide (fun u => mFill s.size u (by omega))
  obtain ⟨F, hF⟩ : ∃ F, F = Sha.fill s.size := ⟨_, rfl⟩
  rw [← hF] at HFL HF
  have HFF := hide hF
  clear hF
  go_enter Try.func24, Try.ntmps24
  go_wp2_with (refine wpList_alloc_row (by rfl) 38 (by rfl) (some 2) (by rfl) b (by exact (unhide HBW).symm) Z32 zeroS ?_; intro W1 HR1 HB1 HS1; obtain ⟨g0, c0, W2, hcv, hbr⟩ := conv_br W1 s (by omega); have HBR := hide hbr; clear hbr)
  refine (unhide HF _).mono ?_
  rintro e W3 ⟨v, rfl, ho⟩
  obtain ⟨gF, cF, rfl, hgF, hcF, hsF⟩ := ho.src (unhide HFL).2.1
  have HI3 : Hid (BR W1 W3 g0 c0 (s.data.toList ++ F.take 0) ∧ (∀ (j : Nat) (hj : j < F.length), W3.cell? ⟨gF, j, none⟩ = some (.int .u8 (F[j].toNat : Int))) ∧ gF < W3.heap.size ∧ gF ≠ g0) := by
    refine ⟨by simpa using (unhide HBR).below ho.2, fun j hj => by simpa using hsF j hj, ?_, by have := (unhide HBR).lt; omega⟩
    exact World.block_lt_of_cell? W3 _ (hsF 0 (unhide HFL).2.1)
  clear ho hsF hgF HBR hcv HF
  go_wp2
  go_loopw [3, 5] (fun vb vi wr => ∃ (k g c : Nat), k ≤ F.length ∧ vi = .int .i64 k ∧ vb = .slice (some ⟨g, 0, none⟩) (s.size + k) c ∧ Hid (BR W1 wr g c (s.data.toList ++ F.take k) ∧ (∀ (j : Nat) (hj : j < F.length), wr.cell? ⟨gF, j, none⟩ = some (.int .u8 (F[j].toNat : Int))) ∧ gF < wr.heap.size ∧ gF ≠ g)) (fun _ vi _ => F.length - (intOf vi).toNat)
  case atStart => exact ⟨0, g0, c0, Nat.zero_le _, rfl, rfl, HI3⟩
  case round =>
    clear HI3
    obtain ⟨k, g, c, hk, rfl, rfl, HI⟩ := hrel
    by_cases hlt : k < F.length
    · have hki : (k : Int) < (F.length : Int) := by omega
      have hcx := (unhide HI).2.1 k hlt
      have hF72 : F.length ≤ 72 := (unhide HFL).1
      have hblen : (s.data.toList ++ F.take k).length = s.size + k := by rw [List.length_append, List.length_take, hl]; omega
      have HTK : Hid (F.take (k + 1) = F.take k ++ [F[k]]) := List.take_succ_eq_append_getElem hlt
      obtain ⟨x, hx⟩ : ∃ x, x = F[k] := ⟨_, rfl⟩
      rw [← hx] at hcx HTK
      have hxb := UInt8.toNat_lt x
      obtain ⟨g', c', W5, hrun, hbr, hu1, hor⟩ := ((unhide HI).1.alloc (.cells #[.int .u8 (x.toNat : Int)] 5)).append 24 ⟨wr.heap.size, 0, none⟩ 1 1 [x] rfl (by simp) (fun j hj => by
        obtain rfl : j = 0 := by simpa using hj
        simp [Addr.add]) (by rw [hblen]; simp; omega)
      rw [hblen] at hrun
      have HN : Hid (BR W1 W5 g' c' (s.data.toList ++ F.take (k + 1)) ∧ (∀ (j : Nat) (hj : j < F.length), W5.cell? ⟨gF, j, none⟩ = some (.int .u8 (F[j].toNat : Int))) ∧ gF < W5.heap.size ∧ gF ≠ g') := by
        have hI := unhide HI
        have hsz := hu1.size
        simp only [World.size_alloc] at hsz hor
        refine ⟨by rw [unhide HTK, ← List.append_assoc]; exact hbr, fun j hj => ?_, by omega, by rcases hor with rfl | h; exact hI.2.2.2; omega⟩
        refine cell_u1 hu1 hI.2.2.2 ?_
        rw [World.cell?_alloc_lt _ _ _ (by exact hI.2.2.1)]
        exact hI.2.1 j hj
      clear hbr hu1 hor HTK HI hblen hx
      go_wp2_with (at_builtin; refine Lib.wpList_append_run _ rfl (.tmp 22) (.tmp 27) 24 24 rfl _ _ rfl rfl _ _ hrun ?_)
      go_roundw
      case rel => exact ⟨k + 1, g', c', by omega, by go_num, rfl, hide (unhide HN)⟩
      case measure => simp [intOf]; omega
    · have hkk : k = F.length := by omega
      subst hkk
      have hF72 : F.length ≤ 72 := (unhide HFL).1
      obtain ⟨L, hL⟩ : ∃ L, L = s.data.toList ++ F := ⟨_, rfl⟩
      have HB4 : Hid (BR W1 wr g c L) := by have := (unhide HI).1; rw [List.take_of_length_le (Nat.le_refl _), ← hL] at this; exact this
      have HLN : Hid (L.length = s.size + F.length) := by rw [hL, List.length_append, hl]; exact hide rfl
      have HLE := hide hL
      obtain ⟨n, hn⟩ : ∃ n, n = s.size + F.length := ⟨_, rfl⟩
      obtain ⟨N, hN⟩ : ∃ N, n = 64 * N := ⟨n / 64, by have := (unhide HFL).2.2; omega⟩
      rw [← hn] at HLN
      have hni : (n : Int) ≤ 140737488355200 := by omega
      have HNN := hide hN
      clear HI hL hN hF72
      rw [← hn]
      clear hn
      go_wp2_with fail
      refine (mStart _).mono ?_
      rintro e W4 ⟨rfl, hb4⟩
      have HB5 := hide ((unhide HB4).below hb4)
      clear hb4 HB4
      generalize hsb : W4.heap.size = sb
      have HSB := hide hsb
      clear hsb
      go_wp2_with (first | (refine wpList_alloc_row (by rfl) 23 (by rfl) (some 6) (by rfl) sb (by exact unhide HSB) _ zero8 ?_; intro W5 HR5 HB5' HS5) | (refine wpList_store_u1 rfl 23 (.tmp 6) (.tmp 29) rfl sb (St8 Sha.start) rfl rfl 23 _ (unhide HR5) info8 rfl (St8_one _) ?_; intro W6 HR6 HU6))
      have HP : Hid (BR W1 W6 g c L ∧ W6.heap[sb]? = some (.cells (St8 (Sha.blocks 0 Sha.start L)) 23 (0, 0)) ∧ sb ≠ g ∧ b + 1 ≤ sb ∧ sb < W6.heap.size) := by
        have hsb := unhide HSB
        have h5 := unhide HB5
        have hb5 := unhide HB5'
        rw [← hsb] at hb5
        have h6 := h5.below hb5
        have hlt := h5.lt
        have hge := h5.ge
        have hs1 := unhide HS1
        have hs5 := unhide HS5
        have hbs := h5.bel.size
        refine ⟨h6.keep ((unhide HU6).block g (by omega) (by omega)) (h6.bel.trans ((unhide HU6).toBelow (by omega) (by omega))), unhide HR6, by omega, by omega, by have := (unhide HU6).size; omega⟩
      clear HR5 HB5' HS5 HR6 HU6 HB5 HSB
      go_wp2
      go_loopw [7] (fun vi wr2 => ∃ (k p : Nat), k ≤ N ∧ vi = .int .i64 (p : Int) ∧ Hid (p = 64 * k) ∧ p ≤ n ∧ Hid (BR W1 wr2 g c L ∧ wr2.heap[sb]? = some (.cells (St8 (Sha.blocks k Sha.start L)) 23 (0, 0)) ∧ sb ≠ g ∧ b + 1 ≤ sb ∧ sb < wr2.heap.size)) (fun vi _ => n - (intOf vi).toNat)
      case atStart => exact ⟨0, 0, Nat.zero_le _, rfl, hide rfl, Nat.zero_le _, HP⟩
      case round =>
        clear HP
        obtain ⟨k, p, hkN, rfl, HPK, hpn, HP⟩ := hrel
        by_cases hlt2 : p < n
        · have hpi : (p : Int) < (n : Int) := by omega
          have hp64 : p + 64 ≤ n := by have := unhide HPK; have := unhide HNN; omega
          have hwr : IntKind.i64.wrap ((p : Int) + 64) = (p : Int) + 64 := by rw [IntKind.wrap_i64]; omega
          have hcm := cutMid g n c p hp64 (by have := (unhide HP).1.le; rw [unhide HLN] at this; exact this)
          have HX : Hid (Sha.blocks (k + 1) Sha.start L = Sha.mix (Sha.blocks k Sha.start L) ((L.drop (64 * k)).take 64)) := Sha.blocks_succ _ _ _
          have HOK : Hid (Ok (Sha.blocks k Sha.start L)) := Ok.start.blocks _ _
          have HCL : Hid (∀ j, j < 64 → wr.cell? ⟨g, p + j, none⟩ = some (.int .u8 (lfB ((L.drop (64 * k)).take 64) j : Nat))) := by
            intro j hj
            have e1 := unhide HPK
            have e2 := unhide HLN
            rw [(unhide HP).1.cell (p + j) (by omega)]
            simp only [lfB, List.getD, List.getElem?_take_of_lt hj, List.getElem?_drop, ← e1]
            rw [List.getElem?_eq_getElem (by omega)]
            rfl
          generalize Sha.blocks k Sha.start L = t at *
          generalize (L.drop (64 * k)).take 64 = x at *
          go_wp2
          refine wp_region_any (by kernel_rfl) ?_
          change wpAny _ _ _ _ _ _ _ (World.drew _)
          refine wpAny_take' 1 37 (.slice (some ⟨g, 0, none⟩) n c) rfl rfl (by kernel_rfl) (by kernel_rfl) (by kernel_rfl) (fun _ _ _ h => h) rfl (fun u => by go_simp) ?_
          simp only [Act.put, List.setIfInBounds_toArray, List.set_cons_zero, List.set_cons_succ]
          refine wpAny_take' 2 38 (.int .i64 (p : Int)) rfl rfl (by kernel_rfl) (by kernel_rfl) (by kernel_rfl) (fun _ _ _ h => h) rfl (fun u => by go_simp) ?_
          simp only [Act.put, List.setIfInBounds_toArray, List.set_cons_zero, List.set_cons_succ]
          refine wpAny_take' 3 39 (.int .i64 (p : Int)) rfl rfl (by kernel_rfl) (by kernel_rfl) (by kernel_rfl) (fun _ _ _ h => h) rfl (fun u => by go_simp) ?_
          simp only [Act.put, List.setIfInBounds_toArray, List.set_cons_zero, List.set_cons_succ]
          refine wpAny_take' 4 40 (.int .i64 ((p : Int) + 64)) rfl rfl (by kernel_rfl) (by kernel_rfl) (by kernel_rfl) (fun _ _ _ h => h) rfl (fun u => by go_simp) ?_
          simp only [Act.put, List.setIfInBounds_toArray, List.set_cons_zero, List.set_cons_succ]
          refine wpAny_take' 5 41 (.slice (some ⟨g, p, none⟩) 64 (c - p)) rfl rfl (by kernel_rfl) (by kernel_rfl) (by kernel_rfl) (fun _ _ _ h => h) rfl (fun u => by go_simp) ?_
          simp only [Act.put, List.setIfInBounds_toArray, List.set_cons_zero, List.set_cons_succ]
          have hst : wr.drew.rangeAt sb 0 (St8 t).toList := by
            intro j v hv
            rw [Nat.zero_add]
            show wr.cell? ⟨sb, j, none⟩ = some v
            simp only [World.cell?, (unhide HP).2.1]
            simpa using hv
          refine wpAny_one (i := 0) (by kernel_rfl) rfl rfl fun K hK => wp_load_arr 23 (.tmp 6) rfl (some 36) rfl sb 0 rfl (St8 t) _ _ hst Try.underlying23 info8 (hK _ _ ?_)
          clear hK K hst
          simp only [Act.put, List.setIfInBounds_toArray, List.set_cons_zero, List.set_cons_succ]
          refine wpAny_one (i := 6) (by kernel_rfl) rfl rfl fun K hK => ?_
          go_simp
          refine (mMade (lfB x) (lfB_lt _) t (unhide HOK) g p (c - p) wr.drew (unhide HP).1.lt (unhide HCL)).mono ?_
          rintro e W7 ⟨rfl, hb7⟩
          rw [mix_lfB]
          have hr7 : W7.heap[sb]? = some (.cells (St8 t) 23 (0, 0)) := (hb7.block sb (unhide HP).2.2.2.2).trans (unhide HP).2.1
          have hth : W7.there sb 0 8 := by
            intro j hj
            rw [Nat.zero_add]
            refine ⟨?_, by simp [World.frozen?, hr7]⟩
            simp only [World.cell?, hr7]
            rw [St8_at t j hj]; rfl
          have HP7 : Hid (BR W1 (W7.setCells sb 0 (St8 (Sha.mix t x)).toList) g c L ∧ (W7.setCells sb 0 (St8 (Sha.mix t x)).toList).heap[sb]? = some (.cells (St8 (Sha.mix t x)) 23 (0, 0)) ∧ sb ≠ g ∧ b + 1 ≤ sb ∧ sb < (W7.setCells sb 0 (St8 (Sha.mix t x)).toList).heap.size) := by
            have hP := unhide HP
            have hd : BR W1 wr.drew g c L := hP.1.keep rfl ⟨hP.1.bel.os, hP.1.bel.tape, hP.1.bel.output, hP.1.bel.size, hP.1.bel.block⟩
            have h7 := hd.below hb7
            have hu : U1 W7 (W7.setCells sb 0 (St8 (Sha.mix t x)).toList) sb := U1.cells _ _ _ (U1.refl _ _)
            have hs1 := unhide HS1
            have hlt7 := h7.lt
            have hbs := h7.bel.size
            have hrr := heap_setCells (St8 (Sha.mix t x)).toList 0 W7 (St8 t).toList hr7 (by simp [St8])
            have es : splice (St8 t).toList 0 (St8 (Sha.mix t x)).toList = (St8 (Sha.mix t x)).toList := by simp [splice, St8]
            rw [es] at hrr
            refine ⟨h7.keep (hu.block g hlt7 (Ne.symm hP.2.2.1)) (h7.bel.trans (hu.toBelow (by omega) (by omega))), hrr, hP.2.2.1, hP.2.2.2.1, ?_⟩
            exact (Array.getElem?_eq_some_iff.1 hrr).1
          clear hb7 hr7 HCL HOK HP
          generalize Sha.mix t x = t2 at *
          refine hK _ _ ?_
          clear hK K
          refine wpAny_one (i := 7) (by kernel_rfl) rfl rfl fun K hK => wp_store_arr 23 (.tmp 6) (.tmp 42) rfl rfl sb 0 (St8 t2) rfl rfl hth info8 (St8_one t2) (hK _ _ ?_)
          clear hK K hth
          refine wpAny_done (by kernel_rfl) ?_ _
          generalize W7.setCells sb 0 (St8 t2).toList = W8 at *
          go_wp2
          go_roundw
          case rel =>
            refine ⟨k + 1, p + 64, ?_, by go_num, ?_, hp64, ?_⟩
            · have := unhide HPK; have := unhide HNN; omega
            · have := unhide HPK; exact hide (by omega)
            · rw [unhide HX]; exact hide (unhide HP7)
          case measure => simp [intOf]; omega
        · have hkk : k = N := by have := unhide HPK; have := unhide HNN; omega
          have HTT : Hid (Sha.blocks k Sha.start L = Sha.absorb L) := by rw [hkk]; exact (absorb_blocks L N (by rw [unhide HLN]; exact unhide HNN)).symm
          have HQ : Hid (Below b w wr ∧ wr.heap[b]? = some (.cells Z32 38 (0, 0)) ∧ wr.heap[sb]? = some (.cells (St8 (Sha.absorb L)) 23 (0, 0)) ∧ b + 1 ≤ sb ∧ sb < wr.heap.size) := by
            have hP := unhide HP
            have hs1 := unhide HS1
            refine ⟨(unhide HB1).trans (hP.1.bel.mono (by omega)), (hP.1.bel.block b (by omega)).trans (unhide HR1), by rw [← unhide HTT]; exact hP.2.1, hP.2.2.2.1, hP.2.2.2.2⟩
          have HOK : Hid (Ok (Sha.absorb L)) := Ok.absorb _
          have HOF : Hid (ofCells s.data.toList = (Lib.byteCells (Sha.told (Sha.absorb L))).toArray) := by
            unfold ofCells Sha.of
            rw [hl, ← unhide HFF, ← unhide HLE]
            exact hide rfl
          clear HP HTT hkk HR1 HB1 HS1
          generalize Sha.absorb L = t at *
          generalize hob : wr.heap.size = ob
          have HOB := hide hob
          clear hob
          go_wp2_with (refine wpList_alloc_row (by rfl) 38 (by rfl) (some 8) (by rfl) ob (by exact unhide HOB) Z32 zeroS ?_; intro W9 HR9 HB9 HS9)
          have HJ : Hid (Below b w W9 ∧ W9.heap[b]? = some (.cells Z32 38 (0, 0)) ∧ W9.heap[sb]? = some (.cells (St8 t) 23 (0, 0)) ∧ b + 1 ≤ sb ∧ sb < ob ∧ T32 t W9 ob 0) := by
            have hq := unhide HQ
            have hob := unhide HOB
            have h9 := unhide HB9
            rw [hob] at hq
            refine ⟨hq.1.trans (h9.mono (by omega)), (h9.block b (by omega)).trans hq.2.1, (h9.block sb hq.2.2.2.2).trans hq.2.2.1, hq.2.2.2.1, hq.2.2.2.2, ⟨Z32, unhide HR9, rfl, fun j hj => absurd hj (Nat.not_lt_zero _)⟩⟩
          clear HQ HR9 HB9 HS9 HOB
          go_loopw [9] (fun v wr => ∃ k2 : Nat, k2 ≤ 32 ∧ v = .int .i64 k2 ∧ Hid (Below b w wr ∧ wr.heap[b]? = some (.cells Z32 38 (0, 0)) ∧ wr.heap[sb]? = some (.cells (St8 t) 23 (0, 0)) ∧ b + 1 ≤ sb ∧ sb < ob ∧ T32 t wr ob k2)) (fun v _ => 32 - (intOf v).toNat)
          case atStart => exact ⟨0, by omega, rfl, HJ⟩
          case round =>
            clear HJ
            obtain ⟨k2, hk2, rfl, HI⟩ := hrel
            by_cases hlt : k2 < 32
            · have hki : (k2 : Int) < 32 := by omega
              obtain ⟨q, hq⟩ : ∃ q : Nat, q = k2 / 4 := ⟨_, rfl⟩
              obtain ⟨r, hr⟩ : ∃ r : Nat, r = k2 % 4 := ⟨_, rfl⟩
              have hq1 : (k2 : Int) / 4 = (q : Int) := by omega
              have hq8 : (q : Int) < 8 := by omega
              have hc : wr.cell? ⟨sb, q, none⟩ = some (.int .u32 (fld t q : Nat)) := by simp only [World.cell?, (unhide HI).2.2.1]; exact St8_at t q (by omega)
              obtain ⟨⟨v0, hc2⟩, hfz⟩ := (unhide HI).2.2.2.2.2.cell k2 hlt
              have hfl := fld_lt (unhide HOK) q
              have HN : Hid (∀ v, v = .int .u8 (toldB t k2 : Nat) → Below b w (wr.setCell ⟨ob, k2, none⟩ v) ∧ (wr.setCell ⟨ob, k2, none⟩ v).heap[b]? = some (.cells Z32 38 (0, 0)) ∧ (wr.setCell ⟨ob, k2, none⟩ v).heap[sb]? = some (.cells (St8 t) 23 (0, 0)) ∧ b + 1 ≤ sb ∧ sb < ob ∧ T32 t (wr.setCell ⟨ob, k2, none⟩ v) ob (k2 + 1)) := by
                intro v hv
                have hI := unhide HI
                refine ⟨belowCell hI.1 (by show b ≤ ob; omega) _, ?_, ?_, hI.2.2.2.1, hI.2.2.2.2.1, hI.2.2.2.2.2.next hlt v hv⟩
                · rw [Deep.blk_setCell_other _ _ _ _ (by show b ≠ ob; omega)]; exact hI.2.1
                · rw [Deep.blk_setCell_other _ _ _ _ (by show sb ≠ ob; omega)]; exact hI.2.2.1
              have HT : Hid (toldB t k2 = fld t q / 2 ^ (24 - r * 8) % 256) := by unfold toldB; rw [← hq, ← hr]; exact hide rfl
              have hr4 : r < 4 := by omega
              generalize fld t q = y at *
              clear HI hq
              have hcase : r = 0 ∨ r = 1 ∨ r = 2 ∨ r = 3 := by omega
              rcases hcase with rfl | rfl | rfl | rfl
              · have hr1 : (k2 : Int) % 4 = 0 := by omega
                have HT0 : Hid (toldB t k2 = y / 16777216 % 256) := unhide HT
                clear hr hr4 HT
                go_wp2
                exact ⟨⟨k2 + 1, by omega, by go_num, hide (unhide HN _ (by rw [unhide HT0]; congr 1 <;> omega))⟩, by simp [intOf]; omega⟩
              · have hr1 : (k2 : Int) % 4 = 1 := by omega
                have HT0 : Hid (toldB t k2 = y / 65536 % 256) := unhide HT
                clear hr hr4 HT
                go_wp2
                exact ⟨⟨k2 + 1, by omega, by go_num, hide (unhide HN _ (by rw [unhide HT0]; congr 1 <;> omega))⟩, by simp [intOf]; omega⟩
              · have hr1 : (k2 : Int) % 4 = 2 := by omega
                have HT0 : Hid (toldB t k2 = y / 256 % 256) := unhide HT
                clear hr hr4 HT
                go_wp2
                exact ⟨⟨k2 + 1, by omega, by go_num, hide (unhide HN _ (by rw [unhide HT0]; congr 1 <;> omega))⟩, by simp [intOf]; omega⟩
              · have hr1 : (k2 : Int) % 4 = 3 := by omega
                have HT0 : Hid (toldB t k2 = y / 1 % 256) := unhide HT
                clear hr hr4 HT
                go_wp2
                exact ⟨⟨k2 + 1, by omega, by go_num, hide (unhide HN _ (by rw [unhide HT0]; congr 1 <;> omega))⟩, by simp [intOf]; omega⟩
            · have hkk : k2 = 32 := by omega
              subst hkk
              have h1 := (unhide HI).2.2.2.2.2.whole
              have h2 := (unhide HI).2.1
              rw [← show ofCells s.data.toList = _ from unhide HOF] at h1
              have hsi := ofCells_info s.data.toList
              go_wp2_with (first | (refine wpList_load_row rfl 38 (.tmp 8) rfl ob rfl 38 (ofCells s.data.toList) (0, 0) _ h1 hus rfl hsi ?_) | (refine wpList_store_u1 rfl 38 (.tmp 2) (.tmp 59) rfl b (ofCells s.data.toList) rfl rfl 38 Z32 h2 hsi (by rw [ofCells_size]; rfl) (ofCells_one _) ?_; intro WA HRA HUA))
              refine bodyPost_ret (results_cell_row rfl _ _ b 38 (ofCells s.data.toList) (0, 0) _ rfl (unhide HRA) hus rfl hsi) rfl ?_
              have hbw := unhide HBW
              have hI := unhide HI
              refine ⟨rfl, ?_⟩
              rw [← hbw]
              exact hI.1.trans ((unhide HUA).toBelow (by have := (Array.getElem?_eq_some_iff.1 h2).1; omega) (Nat.le_refl _))
end Go.Proofs.Ytpbifpbblinopaa
