/- The walk of DigestFolds. -/
import Derived.Test.YtpbifpbblinopaaFoA
import Derived.Deep.RegionHeld3
namespace Go.Proofs.Ytpbifpbblinopaa
open Go.RowKit

set_option maxRecDepth 100000 in
set_option maxHeartbeats 4000000 in
theorem folds_walk (s : ByteArray) (hs : s.size ≤ 140737488351232) (xs : List Int) (ao : Option Addr) (cap : Nat) (hxl : xs.length ≤ 9223372036854775807) (w : World) (hx : LiesI w ao xs) (hxb : ∀ x ∈ xs, -9223372036854775808 ≤ x ∧ x ≤ 9223372036854775807) :
    Calls Try.prog 9 #[.string s, .slice ao xs.length cap] w fun e w' => e = .returned (.bool true) ∧ Below w.heap.size w w' := by
  have HX := hide hx
  have HXB := hide hxb
  have hl := list_size s
  have hs0 : (s.size : Int) ≤ 140737488351232 := by omega
  have hxi : (xs.length : Int) ≤ 9223372036854775807 := by omega
  clear hx hxb
  go_enter Try.func9, Try.ntmps9
  go_wp2_with fail
  refine (lAwake _).mono ?_
  rintro e W1 ⟨rfl, hb1⟩
  have HB1 := hide hb1
  clear hb1
  go_wp2_with fail
  refine (dNew _).mono ?_
  rintro e W2 ⟨h, rfl, hge, hh, hb2⟩
  have HI2 : Hid (Hs W2 h (s.data.toList.take 0) ∧ Below w.heap.size w W2) := ⟨by simpa using hh, (unhide HB1).trans (hb2.mono (unhide HB1).size)⟩
  have HH : Hid (w.heap.size ≤ h) := Nat.le_trans (unhide HB1).size hge
  clear hge hh hb2 HB1
  go_wp2
  go_loopw [6, 7] (fun vf vi wr => ∃ (f k : Nat), k ≤ xs.length ∧ f ≤ s.size ∧ vf = .int .i64 f ∧ vi = .int .i64 k ∧ Hid (Hs wr h (s.data.toList.take f) ∧ Below w.heap.size w wr)) (fun _ vi _ => xs.length - (intOf vi).toNat)
  case atStart => exact ⟨0, 0, Nat.zero_le _, Nat.zero_le _, rfl, rfl, HI2⟩
  case round =>
    clear HI2
    obtain ⟨f, k, hk, hf, rfl, rfl, HI⟩ := hrel
    by_cases hlt : k < xs.length
    · have hki : (k : Int) < (xs.length : Int) := by omega
      obtain ⟨ga, oa, hao, hga, hca⟩ := unhide HX (by omega)
      have hcx : wr.cell? ⟨ga, oa + k, none⟩ = some (.int .i64 xs[k]) := ((unhide HI).2.cell (p := ⟨ga, oa + k, none⟩) hga).trans (hca k hlt)
      have hxk := unhide HXB xs[k] (List.getElem_mem hlt)
      subst hao
      clear hca
      generalize xs[k] = x at *
      by_cases h1 : x < (f : Int)
      · go_wp2
        go_roundw
        case rel => exact ⟨f, k + 1, by omega, hf, rfl, by go_num, hide (unhide HI)⟩
        case measure => simp [intOf]; omega
      · by_cases h2 : (s.size : Int) < x
        · have h1' : ¬ x < (f : Int) := h1
          go_wp2
          go_roundw
          case rel => exact ⟨f, k + 1, by omega, hf, rfl, by go_num, hide (unhide HI)⟩
          case measure => simp [intOf]; omega
        · obtain ⟨X, rfl⟩ := Int.eq_ofNat_of_zero_le (show 0 ≤ x by omega)
          have hfX : f ≤ X := by omega
          have hXs : X ≤ s.size := by omega
          have hfXi : (f : Int) ≤ (X : Int) := by omega
          have hXsi : (X : Int) ≤ (s.size : Int) := by omega
          have HSZ := hide (extract_sz s f X hXs)
          have HTE := hide (take_extract s f X hfX)
          have hfl : (s.data.toList.take f).length = f := by rw [List.length_take, hl]; omega
          by_cases hp : k % 2 = 0
          · have hpi : (k : Int) % 2 = 0 := by omega
            obtain ⟨g, c, W3, hcv, hbr⟩ := conv_br wr (s.extract f X) (by rw [unhide HSZ]; omega)
            have hle := list_size (s.extract f X)
            have HWR := hide (dWrite h (s.data.toList.take f) (s.extract f X).data.toList (some ⟨g, 0, none⟩) c W3 ((unhide HI).1.below (by exact hbr.bel)) (fun _ => ⟨g, 0, rfl, by have := (unhide HI).1.lt; have := hbr.ge; omega, fun j hj => by rw [Nat.zero_add]; exact hbr.cell j hj⟩) hbr.le (by rw [hfl, hle, unhide HSZ]; omega))
            rw [hle, unhide HSZ] at HWR
            have HB3 : Hid (Below w.heap.size w W3) := (unhide HI).2.trans (hbr.bel.mono (unhide HI).2.size)
            have HL3 : Hid (h < W3.heap.size) := by have := (unhide HI).1.lt; have := hbr.bel.size; exact hide (by omega)
            clear hbr hle HI
            go_wp2_with fail
            refine (unhide HWR).mono ?_
            rintro e W4 ⟨rfl, hh4, hu4⟩
            rw [unhide HTE] at hh4
            have HI4 : Hid (Hs W4 h (s.data.toList.take X) ∧ Below w.heap.size w W4) := ⟨hh4, (unhide HB3).trans (hu4.toBelow (unhide HB3).size (unhide HH))⟩
            clear hh4 hu4 HWR hcv HB3 HL3
            go_wp2
            go_roundw
            case rel => exact ⟨X, k + 1, by omega, hXs, rfl, by go_num, hide (unhide HI4)⟩
            case measure => simp [intOf]; omega
          · have hpi : ((k : Int) % 2 == 0) = false := by rw [beq_eq_false_iff_ne]; omega
            have HTX := hide (dText h (s.data.toList.take f) (s.extract f X) wr (unhide HI).1 (by rw [hfl, unhide HSZ]; omega) (by rw [unhide HSZ]; omega))
            go_wp2_with fail
            refine (unhide HTX).mono ?_
            rintro e W4 ⟨rfl, hh4, hu4⟩
            rw [unhide HTE] at hh4
            have HI4 : Hid (Hs W4 h (s.data.toList.take X) ∧ Below w.heap.size w W4) := ⟨hh4, (unhide HI).2.trans (hu4.toBelow (unhide HI).2.size (unhide HH))⟩
            clear hh4 hu4 HTX HI
            go_wp2
            go_roundw
            case rel => exact ⟨X, k + 1, by omega, hXs, rfl, by go_num, hide (unhide HI4)⟩
            case measure => simp [intOf]; omega
    · have hkk : k = xs.length := by omega
      have hfsi : (f : Int) ≤ (s.size : Int) := by omega
      have HEX : Hid (s.data.toList.take f ++ (s.extract f s.size).data.toList = s.data.toList) := by
        rw [take_extract s f s.size hf, List.take_of_length_le (by omega)]; exact hide rfl
      have HTX := hide (dText h (s.data.toList.take f) (s.extract f s.size) wr (unhide HI).1 (by rw [List.length_take, hl, extract_sz s f s.size (Nat.le_refl _)]; omega) (by rw [extract_sz s f s.size (Nat.le_refl _)]; omega))
      clear hkk hxi hxl
      go_wp2_with fail
      refine (unhide HTX).mono ?_
      rintro e W4 ⟨rfl, hh4, hu4⟩
      rw [unhide HEX] at hh4
      have HI4 : Hid (Hs W4 h s.data.toList ∧ Below w.heap.size w W4) := ⟨hh4, (unhide HI).2.trans (hu4.toBelow (unhide HI).2.size (unhide HH))⟩
      clear hh4 hu4 HTX HI HEX HX HXB
      obtain ⟨g0, c0, W5, hcv, hbr5⟩ := conv_br W4 s (by omega)
      have HBR5 := hide hbr5
      clear hbr5
      have HF := hide (fun u => dFill s.size u)
      have HFL : Hid ((Sha.fill s.size).length ≤ 72 ∧ 9 ≤ (Sha.fill s.size).length ∧ (s.size + (Sha.fill s.size).length) % 64 = 0) := by
        have := Sha.fill_len s.size
        exact ⟨by omega, by omega, by omega⟩
      obtain ⟨F, hF⟩ : ∃ F, F = Sha.fill s.size := ⟨_, rfl⟩
      rw [← hF] at HFL HF
      have HFF := hide hF
      clear hF
      go_wp2_with fail
      refine (unhide HF _).mono ?_
      rintro e W6 ⟨v, rfl, ho⟩
      obtain ⟨gF, cF, rfl, hgF, hcF, hsF⟩ := ho.src (by have := (unhide HFL).2.1; omega)
      obtain ⟨g, c, W7, hrun, hbr, _, _⟩ := ((unhide HBR5).below ho.2).append 24 ⟨gF, 0, none⟩ cF F.length F rfl (by have := (unhide HFL).2.1; omega) (fun j hj => by rw [Addr.add_mid]; exact hsF j hj) (by rw [hl]; have := (unhide HFL).1; omega)
      rw [hl] at hrun
      obtain ⟨L, hL⟩ : ∃ L, L = s.data.toList ++ F := ⟨_, rfl⟩
      rw [← hL] at hbr
      have HB7 := hide hbr
      have HLN : Hid (L.length = s.size + F.length) := by rw [hL, List.length_append, hl]; exact hide rfl
      have HLE := hide hL
      obtain ⟨n, hn⟩ : ∃ n, n = s.size + F.length := ⟨_, rfl⟩
      obtain ⟨N, hN⟩ : ∃ N, n = 64 * N := ⟨n / 64, by have := (unhide HFL).2.2; omega⟩
      rw [← hn] at HLN hrun
      have hni : (n : Int) ≤ 140737488355200 := by have := (unhide HFL).1; omega
      have hn1 : (s.size : Int) + 9 ≤ (n : Int) := by have := (unhide HFL).2.1; omega
      have hn2 : (n : Int) ≤ (s.size : Int) + 72 := by have := (unhide HFL).1; omega
      have hn64 : (n : Int) % 64 = 0 := by omega
      have HNN := hide hN
      clear ho hsF hgF hcF hbr hL hN hn HF HBR5 hcv
      go_wp2_with (at_builtin; refine Lib.wpList_append_run _ rfl (.tmp 63) (.tmp 67) 24 24 rfl _ _ rfl rfl _ _ hrun ?_)
      clear hrun hn1 hn2 hn64
      refine (dStart _).mono ?_
      rintro e W8 ⟨rfl, hb8⟩
      have HB8 := hide ((unhide HB7).below hb8)
      clear hb8 HB7
      generalize hsb : W8.heap.size = sb
      have HSB := hide hsb
      clear hsb
      go_wp2_with (first | (refine wpList_alloc_row (by rfl) 23 (by rfl) (some 10) (by rfl) sb (by exact unhide HSB) Z8 zero8 ?_; intro W9 HR9 HB9 HS9) | (refine wpList_store_u1 rfl 23 (.tmp 10) (.tmp 89) rfl sb (St8 Sha.start) rfl rfl 23 Z8 (unhide HR9) info8 rfl (St8_one _) ?_; intro WA HRA HUA))
      have HP : Hid (FI W4 WA g c L sb (Sha.blocks 0 Sha.start L)) := by
        have hsb := unhide HSB
        have h8 := unhide HB8
        have hb9 := unhide HB9
        rw [← hsb] at hb9
        have h9 := h8.below hb9
        have hlt := h8.lt
        have hs9 := unhide HS9
        have hbs := h8.bel.size
        exact ⟨h9.keep ((unhide HUA).block g (by omega) (by omega)) (h9.bel.trans ((unhide HUA).toBelow (by omega) (by omega))), unhide HRA, by omega, by omega⟩
      clear HR9 HB9 HS9 HRA HUA HB8 HSB
      go_wp2
      go_loopw [11] (fun vi wr2 => ∃ (k p : Nat), k ≤ N ∧ vi = .int .i64 (p : Int) ∧ Hid (p = 64 * k) ∧ p ≤ n ∧ Hid (FI W4 wr2 g c L sb (Sha.blocks k Sha.start L))) (fun vi _ => n - (intOf vi).toNat)
      case atStart => exact ⟨0, 0, Nat.zero_le _, rfl, hide rfl, Nat.zero_le _, HP⟩
      case round =>
        clear HP
        obtain ⟨k, p, hkN, rfl, HPK, hpn, HP⟩ := hrel
        by_cases hlt2 : p < n
        · have hpi : (p : Int) < (n : Int) := by omega
          have hp64 : p + 64 ≤ n := by have := unhide HPK; have := unhide HNN; omega
          have hwr : IntKind.i64.wrap ((p : Int) + 64) = (p : Int) + 64 := by rw [IntKind.wrap_i64]; omega
          have hcm := cutMid g n c p hp64 (by have := (unhide HP).br.le; rw [unhide HLN] at this; exact this)
          have HXX : Hid (Sha.blocks (k + 1) Sha.start L = Sha.mix (Sha.blocks k Sha.start L) ((L.drop (64 * k)).take 64)) := Sha.blocks_succ _ _ _
          have HOK : Hid (Ok (Sha.blocks k Sha.start L)) := Ok.start.blocks _ _
          have HXL : Hid (((L.drop (64 * k)).take 64).length = 64) := by
            have e1 := unhide HPK
            have e2 := unhide HLN
            rw [List.length_take, List.length_drop]; exact hide (by omega)
          have HCL : Hid (∀ (u : World), BR W4 u g c L → ∀ (j : Nat) (hj : j < ((L.drop (64 * k)).take 64).length), u.cell? ⟨g, p + j, none⟩ = some (.int .u8 (((L.drop (64 * k)).take 64)[j].toNat : Int))) := by
            intro u hu j hj
            have e1 := unhide HPK
            have e2 := unhide HLN
            have e3 := unhide HXL
            rw [hu.cell (p + j) (by omega), List.getElem_take, List.getElem_drop]
            simp only [e1]
          generalize Sha.blocks k Sha.start L = t at *
          generalize (L.drop (64 * k)).take 64 = x at *
          obtain ⟨t2, ht2⟩ : ∃ t2, t2 = Sha.mix t x := ⟨_, rfl⟩
          rw [← ht2] at HXX
          have HBK : Hid (∀ (u : World), BR W4 u g c L → Calls Try.prog 14 #[.agg (St8 t), .slice (some ⟨g, p, none⟩) 64 (c - p)] u fun e w' => e = .returned (.tuple #[.agg (St8 t2), .int .i64 0]) ∧ Below u.heap.size u w') := by
            rw [ht2]
            exact hide fun u hu => dBlock64 x (unhide HXL) t (unhide HOK) g p (c - p) u hu.lt (fun j hj => (unhide HCL) u hu j hj)
          clear ht2 HCL HOK HXL
          go_wp2
          refine wp_region_any (by kernel_rfl) ?_
          change wpAny _ _ _ _ _ _ _ (World.drew _)
          refine wpAny_take' 1 98 (.slice (some ⟨g, 0, none⟩) n c) rfl rfl (by kernel_rfl) (by kernel_rfl) (by kernel_rfl) (fun _ _ _ h => h) rfl (fun u => by go_simp) ?_
          simp only [Act.put, List.setIfInBounds_toArray, List.set_cons_zero, List.set_cons_succ]
          refine wpAny_take' 2 99 (.int .i64 (p : Int)) rfl rfl (by kernel_rfl) (by kernel_rfl) (by kernel_rfl) (fun _ _ _ h => h) rfl (fun u => by go_simp) ?_
          simp only [Act.put, List.setIfInBounds_toArray, List.set_cons_zero, List.set_cons_succ]
          refine wpAny_take' 3 100 (.int .i64 (p : Int)) rfl rfl (by kernel_rfl) (by kernel_rfl) (by kernel_rfl) (fun _ _ _ h => h) rfl (fun u => by go_simp) ?_
          simp only [Act.put, List.setIfInBounds_toArray, List.set_cons_zero, List.set_cons_succ]
          refine wpAny_take' 4 101 (.int .i64 ((p : Int) + 64)) rfl rfl (by kernel_rfl) (by kernel_rfl) (by kernel_rfl) (fun _ _ _ h => h) rfl (fun u => by go_simp) ?_
          simp only [Act.put, List.setIfInBounds_toArray, List.set_cons_zero, List.set_cons_succ]
          refine wpAny_take' 5 102 (.slice (some ⟨g, p, none⟩) 64 (c - p)) rfl rfl (by kernel_rfl) (by kernel_rfl) (by kernel_rfl) (fun _ _ _ h => h) rfl (fun u => by go_simp) ?_
          simp only [Act.put, List.setIfInBounds_toArray, List.set_cons_zero, List.set_cons_succ]
          refine wpAny_ready (rs := [0, 10]) (by kernel_rfl) (by simp) ?_
          refine AllReady.cons rfl (fun K hK => ?_) (AllReady.cons rfl (fun K hK => ?_) AllReady.nil)
          · rw [if_pos (wanted_none rfl)]
            refine wp_load_arr 23 (.tmp 10) rfl (some 97) rfl sb 0 rfl (St8 t) _ _ (unhide HP).drew.range Try.underlying23 info8 (hK _ _ ?_)
            clear hK K
            simp only [Act.put, List.setIfInBounds_toArray, List.set_cons_zero, List.set_cons_succ]
            refine wpAny_ready (rs := [6, 10]) (by kernel_rfl) (by simp) ?_
            refine AllReady.cons rfl (fun K hK => ?_) (AllReady.cons rfl (fun K hK => ?_) AllReady.nil)
            · rw [if_pos (wanted_none rfl)]
              go_simp
              refine (unhide HBK wr.drew (unhide HP).drew.br).mono ?_
              rintro e W7 ⟨rfl, hb7⟩
              refine hK _ _ ?_
              clear hK K
              refine wpAny_take' 7 96 (.tuple #[.agg (St8 (t2)), .int .i64 0]) rfl rfl (by kernel_rfl) (by kernel_rfl) (by kernel_rfl) (fun _ _ _ h => h) rfl (fun u => by go_simp) ?_
              simp only [Act.put, List.setIfInBounds_toArray, List.set_cons_zero, List.set_cons_succ]
              refine wpAny_take' 8 104 (.agg (St8 (t2))) rfl rfl (by kernel_rfl) (by kernel_rfl) (by kernel_rfl) (fun _ _ _ h => h) rfl (fun u => by go_simp) ?_
              simp only [Act.put, List.setIfInBounds_toArray, List.set_cons_zero, List.set_cons_succ]
              refine wpAny_take' 9 105 (.int .i64 0) rfl rfl (by kernel_rfl) (by kernel_rfl) (by kernel_rfl) (fun _ _ _ h => h) rfl (fun u => by go_simp) ?_
              simp only [Act.put, List.setIfInBounds_toArray, List.set_cons_zero, List.set_cons_succ]
              refine wpAny_one (i := 10) (by kernel_rfl) rfl rfl fun K hK => wp_alloc_row 23 rfl (some 12) rfl Z8 zero8 fun W8 HR8 HB8 HS8 => hK _ _ ?_
              clear hK K
              simp only [Act.put, List.setIfInBounds_toArray, List.set_cons_zero, List.set_cons_succ]
              have hfn := FN.make ((unhide HP).drew.below hb7) (unhide HB8) (unhide HR8)
              clear hb7 HR8 HB8 HS8
              refine wpAny_one (i := 11) (by kernel_rfl) rfl rfl fun K hK => wp_store_arr 23 (.tmp 12) (.tmp 104) rfl rfl W7.heap.size 0 (St8 (t2)) rfl rfl hfn.there info8 (St8_one _) (hK _ _ ?_)
              clear hK K
              refine wpAny_take' 12 13 (.int .i64 0) rfl rfl (by kernel_rfl) (by kernel_rfl) (by kernel_rfl) (fun _ _ _ h => h) rfl (fun u => by go_simp) ?_
              simp only [Act.put, List.setIfInBounds_toArray, List.set_cons_zero, List.set_cons_succ]
              refine wpAny_done (by kernel_rfl) ?_ _
              have HFN := hide (hfn.store (t2))
              generalize W8.setCells W7.heap.size 0 (St8 (t2)).toList = WZ at *
              generalize W7.heap.size = nb at *
              have hrn := (unhide HFN).row
              have hrs := (unhide HFN).fi.st
              go_wp2_with (first | (refine wpList_load_row rfl 23 (.tmp 12) rfl nb rfl 23 (St8 (t2)) (0, 0) _ hrn Try.underlying23 rfl info8 ?_) | (refine wpList_store_u1 rfl 23 (.tmp 10) (.tmp 108) rfl sb (St8 (t2)) rfl rfl 23 (St8 t) hrs info8 rfl (St8_one _) ?_; intro WY HRY HUY))
              go_roundw
              case rel =>
                refine ⟨k + 1, p + 64, ?_, by go_num, ?_, hp64, ?_⟩
                · have := unhide HPK; have := unhide HNN; omega
                · have := unhide HPK; exact hide (by omega)
                · rw [unhide HXX]; exact hide ((unhide HFN).fi.made (unhide HRY) (unhide HUY))
              case measure => simp [intOf]; omega
            · rw [if_pos (wanted_none rfl)]
              refine wp_alloc_row 23 rfl (some 12) rfl Z8 zero8 fun W8 HR8 HB8 HS8 => hK _ _ ?_
              clear hK K
              simp only [Act.put, List.setIfInBounds_toArray, List.set_cons_zero, List.set_cons_succ]
              have hfn0 := FN.make (unhide HP).drew (unhide HB8) (unhide HR8)
              clear HR8 HB8 HS8
              refine wpAny_one (i := 6) (by kernel_rfl) rfl rfl fun K hK => ?_
              go_simp
              refine (unhide HBK W8 hfn0.fi.br).mono ?_
              rintro e W7 ⟨rfl, hb7⟩
              refine hK _ _ ?_
              clear hK K
              refine wpAny_take' 7 96 (.tuple #[.agg (St8 (t2)), .int .i64 0]) rfl rfl (by kernel_rfl) (by kernel_rfl) (by kernel_rfl) (fun _ _ _ h => h) rfl (fun u => by go_simp) ?_
              simp only [Act.put, List.setIfInBounds_toArray, List.set_cons_zero, List.set_cons_succ]
              refine wpAny_take' 8 104 (.agg (St8 (t2))) rfl rfl (by kernel_rfl) (by kernel_rfl) (by kernel_rfl) (fun _ _ _ h => h) rfl (fun u => by go_simp) ?_
              simp only [Act.put, List.setIfInBounds_toArray, List.set_cons_zero, List.set_cons_succ]
              refine wpAny_take' 9 105 (.int .i64 0) rfl rfl (by kernel_rfl) (by kernel_rfl) (by kernel_rfl) (fun _ _ _ h => h) rfl (fun u => by go_simp) ?_
              simp only [Act.put, List.setIfInBounds_toArray, List.set_cons_zero, List.set_cons_succ]
              have hfn : FN W4 W7 g c L sb t wr.heap.size Z8 := hfn0.below hb7
              refine wpAny_one (i := 11) (by kernel_rfl) rfl rfl fun K hK => wp_store_arr 23 (.tmp 12) (.tmp 104) rfl rfl wr.heap.size 0 (St8 (t2)) rfl rfl hfn.there info8 (St8_one _) (hK _ _ ?_)
              clear hK K
              refine wpAny_take' 12 13 (.int .i64 0) rfl rfl (by kernel_rfl) (by kernel_rfl) (by kernel_rfl) (fun _ _ _ h => h) rfl (fun u => by go_simp) ?_
              simp only [Act.put, List.setIfInBounds_toArray, List.set_cons_zero, List.set_cons_succ]
              refine wpAny_done (by kernel_rfl) ?_ _
              have HFN := hide (hfn.store (t2))
              generalize W7.setCells wr.heap.size 0 (St8 (t2)).toList = WZ at *
              generalize wr.heap.size = nb at *
              have hrn := (unhide HFN).row
              have hrs := (unhide HFN).fi.st
              go_wp2_with (first | (refine wpList_load_row rfl 23 (.tmp 12) rfl nb rfl 23 (St8 (t2)) (0, 0) _ hrn Try.underlying23 rfl info8 ?_) | (refine wpList_store_u1 rfl 23 (.tmp 10) (.tmp 108) rfl sb (St8 (t2)) rfl rfl 23 (St8 t) hrs info8 rfl (St8_one _) ?_; intro WY HRY HUY))
              go_roundw
              case rel =>
                refine ⟨k + 1, p + 64, ?_, by go_num, ?_, hp64, ?_⟩
                · have := unhide HPK; have := unhide HNN; omega
                · have := unhide HPK; exact hide (by omega)
                · rw [unhide HXX]; exact hide ((unhide HFN).fi.made (unhide HRY) (unhide HUY))
              case measure => simp [intOf]; omega
          · rw [if_pos (wanted_none rfl)]
            refine wp_alloc_row 23 rfl (some 12) rfl Z8 zero8 fun W8 HR8 HB8 HS8 => hK _ _ ?_
            clear hK K
            simp only [Act.put, List.setIfInBounds_toArray, List.set_cons_zero, List.set_cons_succ]
            have hfn0 := FN.make (unhide HP).drew (unhide HB8) (unhide HR8)
            clear HR8 HB8 HS8
            refine wpAny_one (i := 0) (by kernel_rfl) rfl rfl fun K hK => ?_
            refine wp_load_arr 23 (.tmp 10) rfl (some 97) rfl sb 0 rfl (St8 t) _ _ hfn0.fi.range Try.underlying23 info8 (hK _ _ ?_)
            clear hK K
            simp only [Act.put, List.setIfInBounds_toArray, List.set_cons_zero, List.set_cons_succ]
            refine wpAny_one (i := 6) (by kernel_rfl) rfl rfl fun K hK => ?_
            go_simp
            refine (unhide HBK W8 hfn0.fi.br).mono ?_
            rintro e W7 ⟨rfl, hb7⟩
            refine hK _ _ ?_
            clear hK K
            refine wpAny_take' 7 96 (.tuple #[.agg (St8 (t2)), .int .i64 0]) rfl rfl (by kernel_rfl) (by kernel_rfl) (by kernel_rfl) (fun _ _ _ h => h) rfl (fun u => by go_simp) ?_
            simp only [Act.put, List.setIfInBounds_toArray, List.set_cons_zero, List.set_cons_succ]
            refine wpAny_take' 8 104 (.agg (St8 (t2))) rfl rfl (by kernel_rfl) (by kernel_rfl) (by kernel_rfl) (fun _ _ _ h => h) rfl (fun u => by go_simp) ?_
            simp only [Act.put, List.setIfInBounds_toArray, List.set_cons_zero, List.set_cons_succ]
            refine wpAny_take' 9 105 (.int .i64 0) rfl rfl (by kernel_rfl) (by kernel_rfl) (by kernel_rfl) (fun _ _ _ h => h) rfl (fun u => by go_simp) ?_
            simp only [Act.put, List.setIfInBounds_toArray, List.set_cons_zero, List.set_cons_succ]
            have hfn : FN W4 W7 g c L sb t wr.heap.size Z8 := hfn0.below hb7
            refine wpAny_one (i := 11) (by kernel_rfl) rfl rfl fun K hK => wp_store_arr 23 (.tmp 12) (.tmp 104) rfl rfl wr.heap.size 0 (St8 (t2)) rfl rfl hfn.there info8 (St8_one _) (hK _ _ ?_)
            clear hK K
            refine wpAny_take' 12 13 (.int .i64 0) rfl rfl (by kernel_rfl) (by kernel_rfl) (by kernel_rfl) (fun _ _ _ h => h) rfl (fun u => by go_simp) ?_
            simp only [Act.put, List.setIfInBounds_toArray, List.set_cons_zero, List.set_cons_succ]
            refine wpAny_done (by kernel_rfl) ?_ _
            have HFN := hide (hfn.store (t2))
            generalize W7.setCells wr.heap.size 0 (St8 (t2)).toList = WZ at *
            generalize wr.heap.size = nb at *
            have hrn := (unhide HFN).row
            have hrs := (unhide HFN).fi.st
            go_wp2_with (first | (refine wpList_load_row rfl 23 (.tmp 12) rfl nb rfl 23 (St8 (t2)) (0, 0) _ hrn Try.underlying23 rfl info8 ?_) | (refine wpList_store_u1 rfl 23 (.tmp 10) (.tmp 108) rfl sb (St8 (t2)) rfl rfl 23 (St8 t) hrs info8 rfl (St8_one _) ?_; intro WY HRY HUY))
            go_roundw
            case rel =>
              refine ⟨k + 1, p + 64, ?_, by go_num, ?_, hp64, ?_⟩
              · have := unhide HPK; have := unhide HNN; omega
              · have := unhide HPK; exact hide (by omega)
              · rw [unhide HXX]; exact hide ((unhide HFN).fi.made (unhide HRY) (unhide HUY))
            case measure => simp [intOf]; omega
        · have hkk : k = N := by have := unhide HPK; have := unhide HNN; omega
          have HQ : Hid (FI W4 wr g c L sb (Sha.absorb L)) := by rw [absorb_blocks L N (by rw [unhide HLN]; exact unhide HNN), ← hkk]; exact hide (unhide HP)
          have HOK : Hid (Ok (Sha.absorb L)) := Ok.absorb _
          have HOFC : Hid (ofCells s.data.toList = (Lib.byteCells (Sha.told (Sha.absorb L))).toArray) := by
            unfold ofCells Sha.of
            rw [hl, ← unhide HFF, ← unhide HLE]
            exact hide rfl
          clear HP hkk
          generalize Sha.absorb L = t at *
          generalize hob : wr.heap.size = ob
          have HOB := hide hob
          clear hob
          go_wp2_with (refine wpList_alloc_row (by rfl) 38 (by rfl) (some 14) (by rfl) ob (by exact unhide HOB) Z32 zeroS ?_; intro WA HRA HBA HSA)
          have HJ : Hid (Hs WA h s.data.toList ∧ Below w.heap.size w WA ∧ WA.heap[sb]? = some (.cells (St8 t) 23 (0, 0)) ∧ sb ≠ ob ∧ h ≠ ob ∧ w.heap.size ≤ ob ∧ T32 t WA ob 0) := by
            have hq := unhide HQ
            have hob := unhide HOB
            have hA := unhide HBA
            have h4 := unhide HI4
            rw [← hob] at hA
            have hb4 : Below W4.heap.size W4 WA := hq.br.bel.trans (hA.mono hq.br.bel.size)
            have hlt := hq.lt
            have hlh := h4.1.lt
            have hs4 := hq.br.bel.size
            have hsw := h4.2.size
            refine ⟨h4.1.below hb4, h4.2.trans (hb4.mono h4.2.size), (hA.block sb hlt).trans hq.st, by omega, by omega, by omega, ⟨Z32, unhide HRA, rfl, fun j hj => absurd hj (Nat.not_lt_zero _)⟩⟩
          clear HQ HRA HBA HSA HOB HI4
          go_loopw [15] (fun v wr => ∃ k2 : Nat, k2 ≤ 32 ∧ v = .int .i64 k2 ∧ Hid (Hs wr h s.data.toList ∧ Below w.heap.size w wr ∧ wr.heap[sb]? = some (.cells (St8 t) 23 (0, 0)) ∧ sb ≠ ob ∧ h ≠ ob ∧ w.heap.size ≤ ob ∧ T32 t wr ob k2)) (fun v _ => 32 - (intOf v).toNat)
          case atStart => exact ⟨0, by omega, rfl, HJ⟩
          case round =>
            clear HJ
            obtain ⟨k2, hk2, rfl, HI⟩ := hrel
            by_cases hlt : k2 < 32
            · have hki : (k2 : Int) < 32 := by omega
              obtain ⟨q, hq⟩ : ∃ q : Nat, q = k2 / 4 := ⟨_, rfl⟩
              obtain ⟨r, hr⟩ : ∃ r : Nat, r = k2 % 4 := ⟨_, rfl⟩
              have hq1 : (k2 : Int) / 4 = (q : Int) := by omega
              have hq8 : (q : Int) < 8 := by omega
              have hc : wr.cell? ⟨sb, q, none⟩ = some (.int .u32 (fld t q : Nat)) := by simp only [World.cell?, (unhide HI).2.2.1]; exact St8_at t q (by omega)
              obtain ⟨⟨v0, hc2⟩, hfz⟩ := (unhide HI).2.2.2.2.2.2.cell k2 hlt
              have hfl := fld_lt (unhide HOK) q
              have HN : Hid (∀ v, v = .int .u8 (toldB t k2 : Nat) → Hs (wr.setCell ⟨ob, k2, none⟩ v) h s.data.toList ∧ Below w.heap.size w (wr.setCell ⟨ob, k2, none⟩ v) ∧ (wr.setCell ⟨ob, k2, none⟩ v).heap[sb]? = some (.cells (St8 t) 23 (0, 0)) ∧ sb ≠ ob ∧ h ≠ ob ∧ w.heap.size ≤ ob ∧ T32 t (wr.setCell ⟨ob, k2, none⟩ v) ob (k2 + 1)) := by
                intro v hv
                have hI := unhide HI
                refine ⟨hI.1.keep (Deep.blk_setCell_other _ _ _ _ (by exact hI.2.2.2.2.1)), belowCell hI.2.1 (by exact hI.2.2.2.2.2.1) _, ?_, hI.2.2.2.1, hI.2.2.2.2.1, hI.2.2.2.2.2.1, hI.2.2.2.2.2.2.next hlt v hv⟩
                rw [Deep.blk_setCell_other _ _ _ _ (by exact hI.2.2.2.1)]; exact hI.2.2.1
              have HT : Hid (toldB t k2 = fld t q / 2 ^ (24 - r * 8) % 256) := by unfold toldB; rw [← hq, ← hr]; exact hide rfl
              have hr4 : r < 4 := by omega
              generalize fld t q = y at *
              clear HI hq
              have hcase : r = 0 ∨ r = 1 ∨ r = 2 ∨ r = 3 := by omega
              rcases hcase with rfl | rfl | rfl | rfl
              · have hr1 : (k2 : Int) % 4 = 0 := by omega
                have HT0 : Hid (toldB t k2 = y / 16777216 % 256) := unhide HT
                clear hr hr4 HT
                go_wp2
                exact ⟨⟨k2 + 1, by omega, by go_num, hide (unhide HN _ (by rw [unhide HT0]; congr 1 <;> omega))⟩, by simp [intOf]; omega⟩
              · have hr1 : (k2 : Int) % 4 = 1 := by omega
                have HT0 : Hid (toldB t k2 = y / 65536 % 256) := unhide HT
                clear hr hr4 HT
                go_wp2
                exact ⟨⟨k2 + 1, by omega, by go_num, hide (unhide HN _ (by rw [unhide HT0]; congr 1 <;> omega))⟩, by simp [intOf]; omega⟩
              · have hr1 : (k2 : Int) % 4 = 2 := by omega
                have HT0 : Hid (toldB t k2 = y / 256 % 256) := unhide HT
                clear hr hr4 HT
                go_wp2
                exact ⟨⟨k2 + 1, by omega, by go_num, hide (unhide HN _ (by rw [unhide HT0]; congr 1 <;> omega))⟩, by simp [intOf]; omega⟩
              · have hr1 : (k2 : Int) % 4 = 3 := by omega
                have HT0 : Hid (toldB t k2 = y / 1 % 256) := unhide HT
                clear hr hr4 HT
                go_wp2
                exact ⟨⟨k2 + 1, by omega, by go_num, hide (unhide HN _ (by rw [unhide HT0]; congr 1 <;> omega))⟩, by simp [intOf]; omega⟩
            · have hkk : k2 = 32 := by omega
              subst hkk
              have HJ2 : Hid (JJ w wr h ob s.data.toList) := by
                have hI := unhide HI
                exact ⟨hI.1, hI.2.1, by rw [unhide HOFC]; exact hI.2.2.2.2.2.2.whole⟩
              have HOF := hide (fun u => dOf s (by omega) u)
              have HSUM := hide (fun (u : World) (hh : Hs u h s.data.toList) => dSum h _ u hh (by omega))
              have HLEN := hide (fun (u : World) (hh : Hs u h s.data.toList) => dLen h _ u hh)
              rw [hl] at HLEN
              have hwu : IntKind.u64.wrap (s.size : Int) = (s.size : Int) := by rw [IntKind.wrap_u64]; omega
              have hsi := ofCells_info s.data.toList
              have heq := eqSum (ofCells s.data.toList) (ofCells_int _)
              generalize hA : ofCells s.data.toList = A at *
              have HOA := hide hA
              clear hA HI HOFC HFF HLE HLN HNN HPK HFL HH
              go_wp2
              refine wp_region_any (by kernel_rfl) ?_
              change wpAny _ _ _ _ _ _ _ (World.drew _)
              refine wpAny_take' 0 125 (.string s) rfl rfl (by kernel_rfl) (by kernel_rfl) (by kernel_rfl) (fun _ _ _ h => h) rfl (fun u => by go_simp) ?_
              simp only [Act.put, List.setIfInBounds_toArray, List.set_cons_zero, List.set_cons_succ]
              refine wpAny_ready (rs := [1, 2]) (by kernel_rfl) (by simp) ?_
              refine AllReady.cons rfl (fun K hK => ?_) (AllReady.cons rfl (fun K hK => ?_) AllReady.nil)
              · rw [if_pos (by rfl)]
                go_simp
                refine (unhide HOF wr.drew).mono ?_
                rintro e WA ⟨rfl, hbx⟩
                have hjA := (unhide HJ2).drew.below hbx
                refine hK _ _ ?_
                clear hK K hbx
                refine wpAny_oneG (i := 2) (by kernel_rfl) rfl (by rfl) fun K hK => ?_
                refine wp_load_arr 38 (.tmp 14) rfl (some 127) rfl ob 0 rfl A _ _ (by rw [← unhide HOA]; exact hjA.range) Try.underlying38 hsi (hK _ _ ?_)
                clear hK K
                simp only [Act.put, List.setIfInBounds_toArray, List.set_cons_zero, List.set_cons_succ]
                refine wpAny_take' 3 128 (.bool true) rfl rfl (by kernel_rfl) (by kernel_rfl) (by kernel_rfl) (fun _ _ _ h => h) rfl (fun u => by go_simp) ?_
                simp only [Act.put, List.setIfInBounds_toArray, List.set_cons_zero, List.set_cons_succ]
                refine wpAny_take' 4 129 (.bool true) rfl rfl (by kernel_rfl) (by kernel_rfl) (by kernel_rfl) (fun _ _ _ h => h) rfl (fun u => by go_simp) ?_
                simp only [Act.put, List.setIfInBounds_toArray, List.set_cons_zero, List.set_cons_succ]
                refine wpAny_takeG 5 130 (.pointer (some ⟨h, 0, none⟩)) rfl rfl (by kernel_rfl) (by kernel_rfl) (by kernel_rfl) (fun _ _ _ h => h) (by rfl) (fun u => by go_simp) ?_
                simp only [Act.put, List.setIfInBounds_toArray, List.set_cons_zero, List.set_cons_succ]
                refine wpAny_ready (rs := [6, 7]) (by kernel_rfl) (by simp) ?_
                refine AllReady.cons rfl (fun K hK => ?_) (AllReady.cons rfl (fun K hK => ?_) AllReady.nil)
                · rw [if_pos (by rfl)]
                  go_simp
                  refine (unhide HSUM WA hjA.hs).mono ?_
                  rintro e WB ⟨rfl, hbx⟩
                  have hjB := hjA.below hbx
                  refine hK _ _ ?_
                  clear hK K hbx
                  refine wpAny_oneG (i := 7) (by kernel_rfl) rfl (by rfl) fun K hK => ?_
                  refine wp_load_arr 38 (.tmp 14) rfl (some 132) rfl ob 0 rfl A _ _ (by rw [← unhide HOA]; exact hjB.range) Try.underlying38 hsi (hK _ _ ?_)
                  clear hK K
                  simp only [Act.put, List.setIfInBounds_toArray, List.set_cons_zero, List.set_cons_succ]
                  refine wpAny_takeG 8 133 (.bool true) rfl rfl (by kernel_rfl) (by kernel_rfl) (by kernel_rfl) (fun _ _ _ h => h) (by rfl) (fun u => by go_simp) ?_
                  simp only [Act.put, List.setIfInBounds_toArray, List.set_cons_zero, List.set_cons_succ]
                  refine wpAny_take' 9 134 (.bool true) rfl rfl (by kernel_rfl) (by kernel_rfl) (by kernel_rfl) (fun _ _ _ h => h) rfl (fun u => by go_simp) ?_
                  simp only [Act.put, List.setIfInBounds_toArray, List.set_cons_zero, List.set_cons_succ]
                  refine wpAny_take' 10 135 (.bool true) rfl rfl (by kernel_rfl) (by kernel_rfl) (by kernel_rfl) (fun _ _ _ h => h) rfl (fun u => by go_simp) ?_
                  simp only [Act.put, List.setIfInBounds_toArray, List.set_cons_zero, List.set_cons_succ]
                  refine wpAny_takeG 11 136 (.pointer (some ⟨h, 0, none⟩)) rfl rfl (by kernel_rfl) (by kernel_rfl) (by kernel_rfl) (fun _ _ _ h => h) (by rfl) (fun u => by go_simp) ?_
                  simp only [Act.put, List.setIfInBounds_toArray, List.set_cons_zero, List.set_cons_succ]
                  refine wpAny_takeG 13 138 (.string s) rfl rfl (by kernel_rfl) (by kernel_rfl) (by kernel_rfl) (fun _ _ _ h => h) (by rfl) (fun u => by go_simp) ?_
                  simp only [Act.put, List.setIfInBounds_toArray, List.set_cons_zero, List.set_cons_succ]
                  refine wpAny_takeG 14 139 (.int .i64 (s.size : Int)) rfl rfl (by kernel_rfl) (by kernel_rfl) (by kernel_rfl) (fun _ _ _ h => h) (by rfl) (fun u => by go_simp) ?_
                  simp only [Act.put, List.setIfInBounds_toArray, List.set_cons_zero, List.set_cons_succ]
                  refine wpAny_takeG 15 140 (.int .u64 (s.size : Int)) rfl rfl (by kernel_rfl) (by kernel_rfl) (by kernel_rfl) (fun _ _ _ h => h) (by rfl) (fun u => by go_simp) ?_
                  simp only [Act.put, List.setIfInBounds_toArray, List.set_cons_zero, List.set_cons_succ]
                  refine wpAny_oneG (i := 12) (by kernel_rfl) rfl (by rfl) fun K hK => ?_
                  go_simp
                  refine (unhide HLEN WB hjB.hs).mono ?_
                  rintro e WC ⟨rfl, rfl⟩
                  refine hK _ _ ?_
                  clear hK K
                  refine wpAny_takeG 16 141 (.bool true) rfl rfl (by kernel_rfl) (by kernel_rfl) (by kernel_rfl) (fun _ _ _ h => h) (by rfl) (fun u => by go_simp) ?_
                  simp only [Act.put, List.setIfInBounds_toArray, List.set_cons_zero, List.set_cons_succ]
                  refine wpAny_take' 17 142 (.bool true) rfl rfl (by kernel_rfl) (by kernel_rfl) (by kernel_rfl) (fun _ _ _ h => h) rfl (fun u => by go_simp) ?_
                  simp only [Act.put, List.setIfInBounds_toArray, List.set_cons_zero, List.set_cons_succ]
                  refine wpAny_take' 18 4 (.bool true) rfl rfl (by kernel_rfl) (by kernel_rfl) (by kernel_rfl) (fun _ _ _ h => h) rfl (fun u => by go_simp) ?_
                  simp only [Act.put, List.setIfInBounds_toArray, List.set_cons_zero, List.set_cons_succ]
                  refine wpAny_done (by kernel_rfl) ?_ _
                  go_wp2
                  go_ret
                  exact ⟨rfl, hjB.bel⟩
                · rw [if_pos (by rfl)]
                  refine wp_load_arr 38 (.tmp 14) rfl (some 132) rfl ob 0 rfl A _ _ (by rw [← unhide HOA]; exact hjA.range) Try.underlying38 hsi (hK _ _ ?_)
                  clear hK K
                  simp only [Act.put, List.setIfInBounds_toArray, List.set_cons_zero, List.set_cons_succ]
                  refine wpAny_oneG (i := 6) (by kernel_rfl) rfl (by rfl) fun K hK => ?_
                  go_simp
                  refine (unhide HSUM WA hjA.hs).mono ?_
                  rintro e WB ⟨rfl, hbx⟩
                  have hjB := hjA.below hbx
                  refine hK _ _ ?_
                  clear hK K hbx
                  refine wpAny_takeG 8 133 (.bool true) rfl rfl (by kernel_rfl) (by kernel_rfl) (by kernel_rfl) (fun _ _ _ h => h) (by rfl) (fun u => by go_simp) ?_
                  simp only [Act.put, List.setIfInBounds_toArray, List.set_cons_zero, List.set_cons_succ]
                  refine wpAny_take' 9 134 (.bool true) rfl rfl (by kernel_rfl) (by kernel_rfl) (by kernel_rfl) (fun _ _ _ h => h) rfl (fun u => by go_simp) ?_
                  simp only [Act.put, List.setIfInBounds_toArray, List.set_cons_zero, List.set_cons_succ]
                  refine wpAny_take' 10 135 (.bool true) rfl rfl (by kernel_rfl) (by kernel_rfl) (by kernel_rfl) (fun _ _ _ h => h) rfl (fun u => by go_simp) ?_
                  simp only [Act.put, List.setIfInBounds_toArray, List.set_cons_zero, List.set_cons_succ]
                  refine wpAny_takeG 11 136 (.pointer (some ⟨h, 0, none⟩)) rfl rfl (by kernel_rfl) (by kernel_rfl) (by kernel_rfl) (fun _ _ _ h => h) (by rfl) (fun u => by go_simp) ?_
                  simp only [Act.put, List.setIfInBounds_toArray, List.set_cons_zero, List.set_cons_succ]
                  refine wpAny_takeG 13 138 (.string s) rfl rfl (by kernel_rfl) (by kernel_rfl) (by kernel_rfl) (fun _ _ _ h => h) (by rfl) (fun u => by go_simp) ?_
                  simp only [Act.put, List.setIfInBounds_toArray, List.set_cons_zero, List.set_cons_succ]
                  refine wpAny_takeG 14 139 (.int .i64 (s.size : Int)) rfl rfl (by kernel_rfl) (by kernel_rfl) (by kernel_rfl) (fun _ _ _ h => h) (by rfl) (fun u => by go_simp) ?_
                  simp only [Act.put, List.setIfInBounds_toArray, List.set_cons_zero, List.set_cons_succ]
                  refine wpAny_takeG 15 140 (.int .u64 (s.size : Int)) rfl rfl (by kernel_rfl) (by kernel_rfl) (by kernel_rfl) (fun _ _ _ h => h) (by rfl) (fun u => by go_simp) ?_
                  simp only [Act.put, List.setIfInBounds_toArray, List.set_cons_zero, List.set_cons_succ]
                  refine wpAny_oneG (i := 12) (by kernel_rfl) rfl (by rfl) fun K hK => ?_
                  go_simp
                  refine (unhide HLEN WB hjB.hs).mono ?_
                  rintro e WC ⟨rfl, rfl⟩
                  refine hK _ _ ?_
                  clear hK K
                  refine wpAny_takeG 16 141 (.bool true) rfl rfl (by kernel_rfl) (by kernel_rfl) (by kernel_rfl) (fun _ _ _ h => h) (by rfl) (fun u => by go_simp) ?_
                  simp only [Act.put, List.setIfInBounds_toArray, List.set_cons_zero, List.set_cons_succ]
                  refine wpAny_take' 17 142 (.bool true) rfl rfl (by kernel_rfl) (by kernel_rfl) (by kernel_rfl) (fun _ _ _ h => h) rfl (fun u => by go_simp) ?_
                  simp only [Act.put, List.setIfInBounds_toArray, List.set_cons_zero, List.set_cons_succ]
                  refine wpAny_take' 18 4 (.bool true) rfl rfl (by kernel_rfl) (by kernel_rfl) (by kernel_rfl) (fun _ _ _ h => h) rfl (fun u => by go_simp) ?_
                  simp only [Act.put, List.setIfInBounds_toArray, List.set_cons_zero, List.set_cons_succ]
                  refine wpAny_done (by kernel_rfl) ?_ _
                  go_wp2
                  go_ret
                  exact ⟨rfl, hjB.bel⟩
              · rw [if_pos (by rfl)]
                refine wp_load_arr 38 (.tmp 14) rfl (some 127) rfl ob 0 rfl A _ _ (by rw [← unhide HOA]; exact (unhide HJ2).drew.range) Try.underlying38 hsi (hK _ _ ?_)
                clear hK K
                simp only [Act.put, List.setIfInBounds_toArray, List.set_cons_zero, List.set_cons_succ]
                refine wpAny_oneG (i := 1) (by kernel_rfl) rfl (by rfl) fun K hK => ?_
                go_simp
                refine (unhide HOF wr.drew).mono ?_
                rintro e WA ⟨rfl, hbx⟩
                have hjA := (unhide HJ2).drew.below hbx
                refine hK _ _ ?_
                clear hK K hbx
                refine wpAny_take' 3 128 (.bool true) rfl rfl (by kernel_rfl) (by kernel_rfl) (by kernel_rfl) (fun _ _ _ h => h) rfl (fun u => by go_simp) ?_
                simp only [Act.put, List.setIfInBounds_toArray, List.set_cons_zero, List.set_cons_succ]
                refine wpAny_take' 4 129 (.bool true) rfl rfl (by kernel_rfl) (by kernel_rfl) (by kernel_rfl) (fun _ _ _ h => h) rfl (fun u => by go_simp) ?_
                simp only [Act.put, List.setIfInBounds_toArray, List.set_cons_zero, List.set_cons_succ]
                refine wpAny_takeG 5 130 (.pointer (some ⟨h, 0, none⟩)) rfl rfl (by kernel_rfl) (by kernel_rfl) (by kernel_rfl) (fun _ _ _ h => h) (by rfl) (fun u => by go_simp) ?_
                simp only [Act.put, List.setIfInBounds_toArray, List.set_cons_zero, List.set_cons_succ]
                refine wpAny_ready (rs := [6, 7]) (by kernel_rfl) (by simp) ?_
                refine AllReady.cons rfl (fun K hK => ?_) (AllReady.cons rfl (fun K hK => ?_) AllReady.nil)
                · rw [if_pos (by rfl)]
                  go_simp
                  refine (unhide HSUM WA hjA.hs).mono ?_
                  rintro e WB ⟨rfl, hbx⟩
                  have hjB := hjA.below hbx
                  refine hK _ _ ?_
                  clear hK K hbx
                  refine wpAny_oneG (i := 7) (by kernel_rfl) rfl (by rfl) fun K hK => ?_
                  refine wp_load_arr 38 (.tmp 14) rfl (some 132) rfl ob 0 rfl A _ _ (by rw [← unhide HOA]; exact hjB.range) Try.underlying38 hsi (hK _ _ ?_)
                  clear hK K
                  simp only [Act.put, List.setIfInBounds_toArray, List.set_cons_zero, List.set_cons_succ]
                  refine wpAny_takeG 8 133 (.bool true) rfl rfl (by kernel_rfl) (by kernel_rfl) (by kernel_rfl) (fun _ _ _ h => h) (by rfl) (fun u => by go_simp) ?_
                  simp only [Act.put, List.setIfInBounds_toArray, List.set_cons_zero, List.set_cons_succ]
                  refine wpAny_take' 9 134 (.bool true) rfl rfl (by kernel_rfl) (by kernel_rfl) (by kernel_rfl) (fun _ _ _ h => h) rfl (fun u => by go_simp) ?_
                  simp only [Act.put, List.setIfInBounds_toArray, List.set_cons_zero, List.set_cons_succ]
                  refine wpAny_take' 10 135 (.bool true) rfl rfl (by kernel_rfl) (by kernel_rfl) (by kernel_rfl) (fun _ _ _ h => h) rfl (fun u => by go_simp) ?_
                  simp only [Act.put, List.setIfInBounds_toArray, List.set_cons_zero, List.set_cons_succ]
                  refine wpAny_takeG 11 136 (.pointer (some ⟨h, 0, none⟩)) rfl rfl (by kernel_rfl) (by kernel_rfl) (by kernel_rfl) (fun _ _ _ h => h) (by rfl) (fun u => by go_simp) ?_
                  simp only [Act.put, List.setIfInBounds_toArray, List.set_cons_zero, List.set_cons_succ]
                  refine wpAny_takeG 13 138 (.string s) rfl rfl (by kernel_rfl) (by kernel_rfl) (by kernel_rfl) (fun _ _ _ h => h) (by rfl) (fun u => by go_simp) ?_
                  simp only [Act.put, List.setIfInBounds_toArray, List.set_cons_zero, List.set_cons_succ]
                  refine wpAny_takeG 14 139 (.int .i64 (s.size : Int)) rfl rfl (by kernel_rfl) (by kernel_rfl) (by kernel_rfl) (fun _ _ _ h => h) (by rfl) (fun u => by go_simp) ?_
                  simp only [Act.put, List.setIfInBounds_toArray, List.set_cons_zero, List.set_cons_succ]
                  refine wpAny_takeG 15 140 (.int .u64 (s.size : Int)) rfl rfl (by kernel_rfl) (by kernel_rfl) (by kernel_rfl) (fun _ _ _ h => h) (by rfl) (fun u => by go_simp) ?_
                  simp only [Act.put, List.setIfInBounds_toArray, List.set_cons_zero, List.set_cons_succ]
                  refine wpAny_oneG (i := 12) (by kernel_rfl) rfl (by rfl) fun K hK => ?_
                  go_simp
                  refine (unhide HLEN WB hjB.hs).mono ?_
                  rintro e WC ⟨rfl, rfl⟩
                  refine hK _ _ ?_
                  clear hK K
                  refine wpAny_takeG 16 141 (.bool true) rfl rfl (by kernel_rfl) (by kernel_rfl) (by kernel_rfl) (fun _ _ _ h => h) (by rfl) (fun u => by go_simp) ?_
                  simp only [Act.put, List.setIfInBounds_toArray, List.set_cons_zero, List.set_cons_succ]
                  refine wpAny_take' 17 142 (.bool true) rfl rfl (by kernel_rfl) (by kernel_rfl) (by kernel_rfl) (fun _ _ _ h => h) rfl (fun u => by go_simp) ?_
                  simp only [Act.put, List.setIfInBounds_toArray, List.set_cons_zero, List.set_cons_succ]
                  refine wpAny_take' 18 4 (.bool true) rfl rfl (by kernel_rfl) (by kernel_rfl) (by kernel_rfl) (fun _ _ _ h => h) rfl (fun u => by go_simp) ?_
                  simp only [Act.put, List.setIfInBounds_toArray, List.set_cons_zero, List.set_cons_succ]
                  refine wpAny_done (by kernel_rfl) ?_ _
                  go_wp2
                  go_ret
                  exact ⟨rfl, hjB.bel⟩
                · rw [if_pos (by rfl)]
                  refine wp_load_arr 38 (.tmp 14) rfl (some 132) rfl ob 0 rfl A _ _ (by rw [← unhide HOA]; exact hjA.range) Try.underlying38 hsi (hK _ _ ?_)
                  clear hK K
                  simp only [Act.put, List.setIfInBounds_toArray, List.set_cons_zero, List.set_cons_succ]
                  refine wpAny_oneG (i := 6) (by kernel_rfl) rfl (by rfl) fun K hK => ?_
                  go_simp
                  refine (unhide HSUM WA hjA.hs).mono ?_
                  rintro e WB ⟨rfl, hbx⟩
                  have hjB := hjA.below hbx
                  refine hK _ _ ?_
                  clear hK K hbx
                  refine wpAny_takeG 8 133 (.bool true) rfl rfl (by kernel_rfl) (by kernel_rfl) (by kernel_rfl) (fun _ _ _ h => h) (by rfl) (fun u => by go_simp) ?_
                  simp only [Act.put, List.setIfInBounds_toArray, List.set_cons_zero, List.set_cons_succ]
                  refine wpAny_take' 9 134 (.bool true) rfl rfl (by kernel_rfl) (by kernel_rfl) (by kernel_rfl) (fun _ _ _ h => h) rfl (fun u => by go_simp) ?_
                  simp only [Act.put, List.setIfInBounds_toArray, List.set_cons_zero, List.set_cons_succ]
                  refine wpAny_take' 10 135 (.bool true) rfl rfl (by kernel_rfl) (by kernel_rfl) (by kernel_rfl) (fun _ _ _ h => h) rfl (fun u => by go_simp) ?_
                  simp only [Act.put, List.setIfInBounds_toArray, List.set_cons_zero, List.set_cons_succ]
                  refine wpAny_takeG 11 136 (.pointer (some ⟨h, 0, none⟩)) rfl rfl (by kernel_rfl) (by kernel_rfl) (by kernel_rfl) (fun _ _ _ h => h) (by rfl) (fun u => by go_simp) ?_
                  simp only [Act.put, List.setIfInBounds_toArray, List.set_cons_zero, List.set_cons_succ]
                  refine wpAny_takeG 13 138 (.string s) rfl rfl (by kernel_rfl) (by kernel_rfl) (by kernel_rfl) (fun _ _ _ h => h) (by rfl) (fun u => by go_simp) ?_
                  simp only [Act.put, List.setIfInBounds_toArray, List.set_cons_zero, List.set_cons_succ]
                  refine wpAny_takeG 14 139 (.int .i64 (s.size : Int)) rfl rfl (by kernel_rfl) (by kernel_rfl) (by kernel_rfl) (fun _ _ _ h => h) (by rfl) (fun u => by go_simp) ?_
                  simp only [Act.put, List.setIfInBounds_toArray, List.set_cons_zero, List.set_cons_succ]
                  refine wpAny_takeG 15 140 (.int .u64 (s.size : Int)) rfl rfl (by kernel_rfl) (by kernel_rfl) (by kernel_rfl) (fun _ _ _ h => h) (by rfl) (fun u => by go_simp) ?_
                  simp only [Act.put, List.setIfInBounds_toArray, List.set_cons_zero, List.set_cons_succ]
                  refine wpAny_oneG (i := 12) (by kernel_rfl) rfl (by rfl) fun K hK => ?_
                  go_simp
                  refine (unhide HLEN WB hjB.hs).mono ?_
                  rintro e WC ⟨rfl, rfl⟩
                  refine hK _ _ ?_
                  clear hK K
                  refine wpAny_takeG 16 141 (.bool true) rfl rfl (by kernel_rfl) (by kernel_rfl) (by kernel_rfl) (fun _ _ _ h => h) (by rfl) (fun u => by go_simp) ?_
                  simp only [Act.put, List.setIfInBounds_toArray, List.set_cons_zero, List.set_cons_succ]
                  refine wpAny_take' 17 142 (.bool true) rfl rfl (by kernel_rfl) (by kernel_rfl) (by kernel_rfl) (fun _ _ _ h => h) rfl (fun u => by go_simp) ?_
                  simp only [Act.put, List.setIfInBounds_toArray, List.set_cons_zero, List.set_cons_succ]
                  refine wpAny_take' 18 4 (.bool true) rfl rfl (by kernel_rfl) (by kernel_rfl) (by kernel_rfl) (fun _ _ _ h => h) rfl (fun u => by go_simp) ?_
                  simp only [Act.put, List.setIfInBounds_toArray, List.set_cons_zero, List.set_cons_succ]
                  refine wpAny_done (by kernel_rfl) ?_ _
                  go_wp2
                  go_ret
                  exact ⟨rfl, hjB.bel⟩
end Go.Proofs.Ytpbifpbblinopaa
