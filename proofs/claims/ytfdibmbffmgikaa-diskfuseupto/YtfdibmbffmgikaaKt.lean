/- DiskFuse: the walk. -/
import Derived.Test.YtfdibmbffmgikaaKr
namespace Go.Proofs.Ytfdibmbffmgikaa
open Go.RowKit Go.Lib

theorem kLitN {B : Nat} {u : World} {D : Nat} {d : Dk} {F : List Nat} (h : Dsk B u D F d) (b : Bool) (hb : (!d.off) = b) : Calls Try.prog 17 #[.pointer (some ⟨D, 0, none⟩)] u fun e u' => e = .returned (.bool b) ∧ u' = u := by
  subst hb
  exact kLitD h
theorem FR.start (n : Int) (hn : -9223372036854775808 ≤ n) (ls : List ByteArray) : FR n ls.length 0 n false ((Dk.loaded ls).fused n) := by
  have e : (Dk.loaded ls).fused n = ⟨(Dk.loaded ls).lies, [], false, max n (-1)⟩ := rfl
  rw [e]
  exact ⟨rfl, by simp [Dk.loaded], Nat.zero_le _, fun h => ⟨by show max n (-1) = n; omega, h, Int.le_refl _⟩, fun h => ⟨by show max n (-1) = -1; omega, rfl, 0, Nat.le_refl _, by unfold wrap64; omega⟩⟩
/-- behind the loss of power, and j writes of one page -/
structure After (P : Nat) (p : List UInt8) (j : Nat) (d : Dk) : Prop where
  off : d.off = false
  fuse : d.fuse = -1
  pend : d.pend = []
  len : d.lies.length = P
  has : 0 < j → d.lies.getD 0 [] = p
theorem settle_put {d : Dk} (h : d.pend = []) (hok : d.Ok) {p : List UInt8} (hp : p.length = 1024) : ((d.put 0 p).settle fun _ => 1024) = ⟨d.lies.set 0 p, [], d.off, d.fuse⟩ := by
  have h0 : (d.lies.getD 0 []).length = 1024 := hok.len _ (getD_mem _ _ hok.pos _)
  simp only [Dk.settle, Dk.put, h, List.nil_append, List.length_singleton, Dk.landed, List.getD_cons_zero]
  rw [List.take_of_length_le (Nat.le_of_eq hp), List.drop_of_length_le (Nat.le_of_eq h0), List.append_nil]
theorem After.next {P j : Nat} {p : List UInt8} {d : Dk} (h : After P p j d) (hok : d.Ok) (hp : p.length = 1024) (hP : 0 < P) : After P p (j + 1) ((d.put 0 p).settle fun _ => 1024) := by
  rw [settle_put h.pend hok hp]
  refine ⟨h.off, h.fuse, rfl, by show (d.lies.set 0 p).length = P; rw [List.length_set]; exact h.len, fun _ => ?_⟩
  show (d.lies.set 0 p).getD 0 [] = p
  have : 0 < d.lies.length := by rw [h.len]; exact hP
  simp [List.getD, this]
set_option maxRecDepth 100000 in
set_option maxHeartbeats 16000000 in
theorem fuse_walk (ls : List ByteArray) (ao : Option Addr) (cap : Nat) (n : Int) (hn : i64b n) (l : List St) (ao2 : Option Addr) (cap2 : Nat) (u : World) (hT : Tb u u.heap.size ao ls) (hS : Sts u u.heap.size ao2 l) (h1 : ls.length ≤ 1048576) (h2 : l.length ≤ 1048576) :
    Calls Try.prog 8 #[.slice ao ls.length cap, .int .i64 n, .slice ao2 l.length cap2] u fun e u' => e = .returned (.bool true) ∧ Below u.heap.size u u' := by
  obtain ⟨B, hB⟩ : ∃ B, B = u.heap.size := ⟨_, rfl⟩
  rw [← hB] at hT hS ⊢
  have HB := hide hB
  have HLe : Hid (∀ w, Below B u w → B ≤ w.heap.size) := fun w h => by rw [hB]; exact h.size
  obtain ⟨P, hP⟩ : ∃ P, P = ls.length := ⟨_, rfl⟩
  obtain ⟨m, hm⟩ : ∃ m, m = l.length := ⟨_, rfl⟩
  have HP := hide hP
  have HM := hide hm
  have HT := hide hT
  have HS := hide hS
  have HN1 := hide h1
  have hm1 : m ≤ 1048576 := by omega
  have HNB := hide hn
  have hn1 := hn.1
  have hn2 := hn.2
  rw [← hP, ← hm]
  clear hB hT hS h1 h2 hm hP hn
  go_enter Try.func8, Try.ntmps8
  go_wp2_with fail
  refine (wakes u).mono ?_
  rintro e w1 ⟨rfl, hb⟩
  have HBB : Hid (Below B u w1) := by rw [unhide HB]; exact hb
  clear hb
  obtain ⟨ao', cap', W', hrun, hts, hbc⟩ := copyTexts w1 B ls ao cap ((unhide HT).below (unhide HBB)) (unhide HN1)
  rw [← unhide HP] at hrun
  have HTS := hide hts
  have HB1 : Hid (Below B u W') := (unhide HBB).trans (hbc.mono (unhide HLe _ (unhide HBB)))
  clear hts hbc HBB
  go_wp2_with (at_builtin; refine append_to (by rfl) (.tmp 21) (.tmp 22) 36 36 (by rfl) (some 23) (by rfl) 36 (by rfl) _ _ (by rfl) (by rfl) _ _ hrun ?_; simp only [Act.put, List.setIfInBounds_toArray, List.set_cons_zero, List.set_cons_succ])
  clear hrun
  have HLD := hide (dLoad ls ao' cap' W' (unhide HTS))
  rw [← unhide HP] at HLD
  refine (unhide HLD).mono ?_
  rintro e w2 ⟨hb, hp⟩
  clear HLD
  have HB2 : Hid (Below B u w2) := (unhide HB1).trans (hb.mono (unhide HLe _ (unhide HB1)))
  have HGE0 : Hid (B ≤ W'.heap.size) := unhide HLe _ (unhide HB1)
  have HG2 : Hid (W'.heap.size ≤ w2.heap.size) := hb.size
  clear hb
  unfold LoadPost at hp
  cases hL : loads ls
  · rw [hL, if_neg (by decide)] at hp
    subst hp
    go_wp2
    go_ret
    exact ⟨rfl, unhide HB2⟩
  · rw [hL, if_pos rfl] at hp
    obtain ⟨D, F, rfl, hd⟩ := hp
    have hP0 : 0 < ls.length := by
      unfold loads at hL
      rw [Bool.and_eq_true, decide_eq_true_eq] at hL
      exact hL.1.1
    have HP0 : Hid (0 < P) := by rw [unhide HP]; exact hP0
    obtain ⟨B2, hB2⟩ : ∃ b, b = W'.heap.size := ⟨_, rfl⟩
    rw [← hB2] at hd HG2 HGE0
    have HGE := hide (unhide HGE0)
    have HD := hide hd
    clear hd hL hP0 hB2 HGE0
    go_wp2_with fail
    refine (kFuseD (unhide HD) n hn2).mono ?_
    rintro e w3 ⟨rfl, hd, hu⟩
    have HI0 : Hid (Dsk B2 w3 D F ((Dk.loaded ls).fused n) ∧ (Below B u w3 ∧ B2 ≤ w3.heap.size) ∧ FR n P 0 n false ((Dk.loaded ls).fused n)) :=
      ⟨hd, ⟨(unhide HB2).trans (hu.below (unhide HLe _ (unhide HB2)) (fun k hk => Nat.le_trans (unhide HGE) ((unhide HD).ge k hk).1)), Nat.le_trans (unhide HG2) hu.size⟩, by rw [unhide HP]; exact FR.start n hn1 ls⟩
    clear hd hu HD HB2 HG2 HB1 HTS
    go_wp2
    go_loopw [9, 10, 11] (fun vl vo vi wr => ∃ (k : Nat) (F : List Nat) (d : Dk) (left : Int) (off : Bool), k ≤ m ∧ vi = .int .i64 k ∧ vl = .int .i64 left ∧ vo = .bool off ∧ Hid (Dsk B2 wr D F d ∧ (Below B u wr ∧ B2 ≤ wr.heap.size) ∧ FR n P k left off d)) (fun _ _ vi _ => m - (intOf vi).toNat)
    case atStart => exact ⟨0, F, _, n, false, Nat.zero_le _, rfl, rfl, rfl, HI0⟩
    case round =>
      clear HI0 F
      obtain ⟨k, F, d, left, off, hk, rfl, rfl, rfl, HI⟩ := hrel
      by_cases hlt : k < m
      · have hki : (k : Int) < (m : Int) := by omega
        have hkl : k < l.length := by rw [← unhide HM]; exact hlt
        obtain ⟨b, o, hao, hbB, hat⟩ := ((unhide HS).below (unhide HI).2.1.1).at' (by omega)
        subst hao
        have hr7 := (hat k hkl).range
        have hok := (unhide HS).ok _ (List.getElem_mem hkl)
        have hix := ixSteps b o m cap2 k hlt
        obtain ⟨N, hN⟩ : ∃ N, N = wr.heap.size := ⟨_, rfl⟩
        have HN := hide hN
        have HR7 := hide hr7
        have HCT := hide (fun w => lContent l[k] hok.s w)
        clear hN hr7 hat hok hbB
        obtain ⟨x, hx⟩ : ∃ x, x = l[k] := ⟨_, rfl⟩
        rw [← hx] at HR7 HCT
        clear hx hkl
        obtain ⟨C, hC⟩ : ∃ C, C = x.cs := ⟨_, rfl⟩
        have HC1 : Hid (C.size = 7 ∧ C.all (·.oneCell') = true) := by rw [hC]; exact ⟨x.cs_size, x.cs_one⟩
        have HC2 : Hid (C = #[.int .i64 x.kind, .int .i64 x.n, .string x.s, .bool x.odd, .slice x.kao x.ks.length x.kc, .int .i64 x.torn, .int .i64 x.cut]) := hC
        rw [← hC] at HR7 HCT
        clear hC
        obtain ⟨o7, ho7⟩ : ∃ z, z = o + k * 7 := ⟨_, rfl⟩
        rw [← ho7] at hix HR7
        clear ho7
        obtain ⟨bs, hbs⟩ : ∃ z, z = cont x.s x.odd := ⟨_, rfl⟩
        rw [← hbs] at HCT
        clear hbs
        obtain ⟨Z, hZ⟩ : ∃ Z : ByteArray, Z = ⟨bs.toArray⟩ := ⟨_, rfl⟩
        rw [← hZ] at HCT
        obtain ⟨bl, hbl⟩ : ∃ z, z = bs.length := ⟨_, rfl⟩
        have HZS : Hid (Z.size = bl) := by rw [hZ, hbl]; exact size_mk bs
        have hzs : Z.size = bl := unhide HZS
        have HZB : Hid (Z.data.toList = bs) := (show Z.data.toList = bs from by rw [hZ])
        have HBL := hide hbl
        clear hZ hbl
        generalize x.kind = kind at *
        generalize x.n = xn at *
        generalize x.s = S at *
        generalize x.odd = odd at *
        generalize x.kao = kao at *
        generalize x.ks.length = kn at *
        generalize x.kc = kc at *
        generalize x.torn = torn at *
        generalize x.cut = cut at *
        have HLDM := hide (run_loadAt_mid (P := Try.prog) wr b o7 47 C.toList _ (unhide HR7) stepUnd rfl (by rw [Array.length_toList, (unhide HC1).1]; exact stepInfo))
        rw [Array.toArray_toList] at HLDM
        by_cases hk0 : kind = 0
        · subst hk0
          go_wp2_with (first
            | (refine wpList_load_mid (by rfl) 47 (.tmp 47) (by rfl) b o7 (by rfl) C.toList _ (unhide HR7) stepUnd rfl (by rw [Array.length_toList, (unhide HC1).1]; exact stepInfo) ?_; simp only [Act.put, List.setIfInBounds_toArray, List.set_cons_zero, List.set_cons_succ, Array.toArray_toList])
            | (refine wpList_alloc_row (by rfl) 47 (by rfl) (some 12) (by rfl) N (by exact (unhide HN).symm) _ zStep ?_; intro W1 HX1 HB1 HS1; simp only [Act.put, List.setIfInBounds_toArray, List.set_cons_zero, List.set_cons_succ])
            | (refine wpList_store_row (by rfl) 47 (.tmp 12) (.tmp 48) (by rfl) N C (by rfl) (by rfl) 47 _ (unhide HX1) (by rw [(unhide HC1).1]; exact stepInfo) (by rw [(unhide HC1).1]; rfl) (unhide HC1).2 ?_
               have HX2 := hide (heapRow_same (unhide HX1) C)
               have HBW2 := hide (belowRow (unhide HB1) (Nat.le_refl N) C)
               generalize W1.setRow N C = w2a at *
               have cN0 : w2a.cell? ⟨N, 0, none⟩ = some (.int .i64 0) := (by rw [cell_of_row w2a N 0 _ _ _ (unhide HX2), unhide HC2]; rfl)
               simp only [Act.put])
            | (refine wpList_load_row (by rfl) 47 (.tmp 12) (by rfl) N (by rfl) 47 C (0, 0) _ (unhide HX2) stepUnd rfl (by rw [(unhide HC1).1]; exact stepInfo) ?_; simp only [Act.put, List.setIfInBounds_toArray, List.set_cons_zero, List.set_cons_succ]))
          refine (unhide HCT _).mono ?_
          rintro e w2 ⟨rfl, hb⟩
          have hbW : Below wr.heap.size wr w2a := by rw [← unhide HN]; exact unhide HBW2
          have hX3 := (hb.block N (Array.getElem?_eq_some_iff.1 (unhide HX2)).1).trans (unhide HX2)
          have dN0 : w2.cell? ⟨N, 0, none⟩ = some (.int .i64 0) := by rw [cell_of_row w2 N 0 _ _ _ hX3, unhide HC2]; rfl
          have dN1 : w2.cell? ⟨N, 1, none⟩ = some (.int .i64 xn) := by rw [cell_of_row w2 N 1 _ _ _ hX3, unhide HC2]; rfl
          have hb2 : Below wr.heap.size wr w2 := hbW.trans (hb.mono hbW.size)
          have HD2 := hide ((unhide HI).1.below hb2)
          have HB2 : Hid (Below B u w2 ∧ B2 ≤ w2.heap.size) := ⟨(unhide HI).2.1.1.trans (hb2.mono (unhide HLe _ (unhide HI).2.1.1)), Nat.le_trans (unhide HI).2.1.2 hb2.size⟩
          clear hb hbW hX3 hb2 cN0 HX1 HB1 HS1 HX2 HBW2 HCT HR7 HC1 HC2 HN hix HLDM

          obtain ⟨c3, w3, hcv, hr3, hb3, hs3⟩ := conv_bytes w2 Z
          have HR3 : Hid (w3.rangeAt w2.heap.size 0 (byteCells bs)) := by rw [unhide HZB] at hr3; exact hr3
          have HD3 := hide ((unhide HD2).below hb3)
          have HB3 : Hid (Below B u w3 ∧ B2 ≤ w3.heap.size) := ⟨(unhide HB2).1.trans (hb3.mono (unhide HLe _ (unhide HB2).1)), Nat.le_trans (unhide HB2).2 hb3.size⟩
          have HF3 : Hid (w2.heap.size ∉ F) := fun hx => by have := ((unhide HD2).ge _ hx).2; omega
          rw [unhide HZS] at hcv
          clear hr3 hb3 hs3 HD2 HB2

          by_cases hx0 : xn < 0
          · cases off
            · go_wp2_with fail
              refine (kWriteN (unhide HD3) (unhide HB3).2 xn _ bl c3 bs (unhide HBL) (fun _ => ⟨_, 0, rfl, unhide HF3, unhide HR3⟩) (by have := (unhide HI).2.2.pend; omega) (1, d) (Dk.write_out (unhide HI).2.2.off' (.inl hx0) _)).mono ?_
              rintro e w4 ⟨rfl, F', hd, hu, hs⟩
              have HDN := hide hd
              have HBN : Hid (Below B u w4 ∧ B2 ≤ w4.heap.size) := ⟨(unhide HB3).1.trans (hu.below (unhide HLe _ (unhide HB3).1) (fun k hk => Nat.le_trans (unhide HGE) ((unhide HD3).ge k hk).1)), Nat.le_trans (unhide HB3).2 hu.size⟩
              clear hd hu hs HD3 HB3 HR3 HF3 hcv

              go_wp2_with fail
              refine (kLitN (unhide HDN) true (by rw [(unhide HI).2.2.off']; rfl)).mono ?_
              rintro e w5 ⟨rfl, hw⟩
              obtain rfl := hw.symm
              clear hw
              go_wp2
              go_roundw
              case rel => exact ⟨k + 1, F', _, _, _, by omega, by go_num, rfl, rfl, hide ⟨unhide HDN, unhide HBN, (unhide HI).2.2.same⟩⟩
              case measure => simp [intOf]; omega
            · go_wp2_with fail
              refine (kWriteN (unhide HD3) (unhide HB3).2 xn _ bl c3 bs (unhide HBL) (fun _ => ⟨_, 0, rfl, unhide HF3, unhide HR3⟩) (by have := (unhide HI).2.2.pend; omega) (40, d) (Dk.write_off (unhide HI).2.2.off' _ _)).mono ?_
              rintro e w4 ⟨rfl, F', hd, hu, hs⟩
              have HDN := hide hd
              have HBN : Hid (Below B u w4 ∧ B2 ≤ w4.heap.size) := ⟨(unhide HB3).1.trans (hu.below (unhide HLe _ (unhide HB3).1) (fun k hk => Nat.le_trans (unhide HGE) ((unhide HD3).ge k hk).1)), Nat.le_trans (unhide HB3).2 hu.size⟩
              clear hd hu hs HD3 HB3 HR3 HF3 hcv

              go_wp2_with fail
              refine (kLitN (unhide HDN) false (by rw [(unhide HI).2.2.off']; rfl)).mono ?_
              rintro e w5 ⟨rfl, hw⟩
              obtain rfl := hw.symm
              clear hw
              go_wp2
              go_roundw
              case rel => exact ⟨k + 1, F', _, _, _, by omega, by go_num, rfl, rfl, hide ⟨unhide HDN, unhide HBN, (unhide HI).2.2.same⟩⟩
              case measure => simp [intOf]; omega
          · by_cases hx1 : (P : Int) ≤ xn
            · have hx0' : 0 ≤ xn := by omega
              have hx1' : ¬ xn < (P : Int) := by omega
              cases off
              · go_wp2_with fail
                refine (kWriteN (unhide HD3) (unhide HB3).2 xn _ bl c3 bs (unhide HBL) (fun _ => ⟨_, 0, rfl, unhide HF3, unhide HR3⟩) (by have := (unhide HI).2.2.pend; omega) (1, d) (Dk.write_out (unhide HI).2.2.off' (.inr (by rw [(unhide HI).2.2.len]; exact hx1)) _)).mono ?_
                rintro e w4 ⟨rfl, F', hd, hu, hs⟩
                have HDN := hide hd
                have HBN : Hid (Below B u w4 ∧ B2 ≤ w4.heap.size) := ⟨(unhide HB3).1.trans (hu.below (unhide HLe _ (unhide HB3).1) (fun k hk => Nat.le_trans (unhide HGE) ((unhide HD3).ge k hk).1)), Nat.le_trans (unhide HB3).2 hu.size⟩
                clear hd hu hs HD3 HB3 HR3 HF3 hcv

                go_wp2_with fail
                refine (kLitN (unhide HDN) true (by rw [(unhide HI).2.2.off']; rfl)).mono ?_
                rintro e w5 ⟨rfl, hw⟩
                obtain rfl := hw.symm
                clear hw
                go_wp2
                go_roundw
                case rel => exact ⟨k + 1, F', _, _, _, by omega, by go_num, rfl, rfl, hide ⟨unhide HDN, unhide HBN, (unhide HI).2.2.same⟩⟩
                case measure => simp [intOf]; omega
              · go_wp2_with fail
                refine (kWriteN (unhide HD3) (unhide HB3).2 xn _ bl c3 bs (unhide HBL) (fun _ => ⟨_, 0, rfl, unhide HF3, unhide HR3⟩) (by have := (unhide HI).2.2.pend; omega) (40, d) (Dk.write_off (unhide HI).2.2.off' _ _)).mono ?_
                rintro e w4 ⟨rfl, F', hd, hu, hs⟩
                have HDN := hide hd
                have HBN : Hid (Below B u w4 ∧ B2 ≤ w4.heap.size) := ⟨(unhide HB3).1.trans (hu.below (unhide HLe _ (unhide HB3).1) (fun k hk => Nat.le_trans (unhide HGE) ((unhide HD3).ge k hk).1)), Nat.le_trans (unhide HB3).2 hu.size⟩
                clear hd hu hs HD3 HB3 HR3 HF3 hcv

                go_wp2_with fail
                refine (kLitN (unhide HDN) false (by rw [(unhide HI).2.2.off']; rfl)).mono ?_
                rintro e w5 ⟨rfl, hw⟩
                obtain rfl := hw.symm
                clear hw
                go_wp2
                go_roundw
                case rel => exact ⟨k + 1, F', _, _, _, by omega, by go_num, rfl, rfl, hide ⟨unhide HDN, unhide HBN, (unhide HI).2.2.same⟩⟩
                case measure => simp [intOf]; omega
            · by_cases hbl2 : bs.length = 1024
              · have hx0 : 0 ≤ xn := by omega
                have hx1 : xn < (P : Int) := by omega
                have hbi : (bl : Int) = 1024 := by rw [unhide HBL]; omega
                cases off
                · by_cases hl0 : left = 0
                  · subst hl0
                    go_wp2_with fail
                    refine (kWriteN (unhide HD3) (unhide HB3).2 xn _ bl c3 bs (unhide HBL) (fun _ => ⟨_, 0, rfl, unhide HF3, unhide HR3⟩) (by have := (unhide HI).2.2.pend; omega) (40, d.asked) (Dk.write_blow (unhide HI).2.2.off' hx0 (by rw [(unhide HI).2.2.len]; exact hx1) hbl2 ((unhide HI).2.2.fuse_zero (unhide HNB).1 (by omega)).1)).mono ?_
                    rintro e w4 ⟨rfl, F', hd, hu, hs⟩
                    have HDN := hide hd
                    have HBN : Hid (Below B u w4 ∧ B2 ≤ w4.heap.size) := ⟨(unhide HB3).1.trans (hu.below (unhide HLe _ (unhide HB3).1) (fun k hk => Nat.le_trans (unhide HGE) ((unhide HD3).ge k hk).1)), Nat.le_trans (unhide HB3).2 hu.size⟩
                    clear hd hu hs HD3 HB3 HR3 HF3 hcv

                    go_wp2_with fail
                    refine (kLitN (unhide HDN) false (by rw [((unhide HI).2.2.blown (unhide HNB).1 (by omega)).off']; rfl)).mono ?_
                    rintro e w5 ⟨rfl, hw⟩
                    obtain rfl := hw.symm
                    clear hw
                    go_wp2
                    go_roundw
                    case rel => exact ⟨k + 1, F', _, _, _, by omega, by go_num, rfl, rfl, hide ⟨unhide HDN, unhide HBN, (unhide HI).2.2.blown (unhide HNB).1 (by omega)⟩⟩
                    case measure => simp [intOf]; omega
                  · obtain ⟨left', hl'⟩ : ∃ z, z = wrap64 (left - 1) := ⟨_, rfl⟩
                    have HLL := hide hl'
                    have hw9 := hl'.symm
                    clear hl'
                    go_wp2_with fail
                    refine (kWriteN (unhide HD3) (unhide HB3).2 xn _ bl c3 bs (unhide HBL) (fun _ => ⟨_, 0, rfl, unhide HF3, unhide HR3⟩) (by have := (unhide HI).2.2.pend; omega) (0, d.asked.put xn.toNat bs) (Dk.write_done (unhide HI).2.2.off' hx0 (by rw [(unhide HI).2.2.len]; exact hx1) hbl2 ((unhide HI).2.2.fuse_ne hl0))).mono ?_
                    rintro e w4 ⟨rfl, F', hd, hu, hs⟩
                    have HDN := hide hd
                    have HBN : Hid (Below B u w4 ∧ B2 ≤ w4.heap.size) := ⟨(unhide HB3).1.trans (hu.below (unhide HLe _ (unhide HB3).1) (fun k hk => Nat.le_trans (unhide HGE) ((unhide HD3).ge k hk).1)), Nat.le_trans (unhide HB3).2 hu.size⟩
                    clear hd hu hs HD3 HB3 HR3 HF3 hcv

                    go_wp2_with fail
                    refine (kLitN (unhide HDN) true (by rw [((unhide HI).2.2.put (unhide HNB).1 (unhide HNB).2 hl0 xn.toNat bs).off']; rfl)).mono ?_
                    rintro e w5 ⟨rfl, hw⟩
                    obtain rfl := hw.symm
                    clear hw
                    go_wp2
                    go_roundw
                    case rel => exact ⟨k + 1, F', _, _, _, by omega, by go_num, rfl, rfl, hide ⟨unhide HDN, unhide HBN, by rw [unhide HLL]; exact (unhide HI).2.2.put (unhide HNB).1 (unhide HNB).2 hl0 xn.toNat bs⟩⟩
                    case measure => simp [intOf]; omega
                · go_wp2_with fail
                  refine (kWriteN (unhide HD3) (unhide HB3).2 xn _ bl c3 bs (unhide HBL) (fun _ => ⟨_, 0, rfl, unhide HF3, unhide HR3⟩) (by have := (unhide HI).2.2.pend; omega) (40, d) (Dk.write_off (unhide HI).2.2.off' _ _)).mono ?_
                  rintro e w4 ⟨rfl, F', hd, hu, hs⟩
                  have HDN := hide hd
                  have HBN : Hid (Below B u w4 ∧ B2 ≤ w4.heap.size) := ⟨(unhide HB3).1.trans (hu.below (unhide HLe _ (unhide HB3).1) (fun k hk => Nat.le_trans (unhide HGE) ((unhide HD3).ge k hk).1)), Nat.le_trans (unhide HB3).2 hu.size⟩
                  clear hd hu hs HD3 HB3 HR3 HF3 hcv

                  go_wp2_with fail
                  refine (kLitN (unhide HDN) false (by rw [(unhide HI).2.2.off']; rfl)).mono ?_
                  rintro e w5 ⟨rfl, hw⟩
                  obtain rfl := hw.symm
                  clear hw
                  go_wp2
                  go_roundw
                  case rel => exact ⟨k + 1, F', _, _, _, by omega, by go_num, rfl, rfl, hide ⟨unhide HDN, unhide HBN, (unhide HI).2.2.same⟩⟩
                  case measure => simp [intOf]; omega
              · have hx0 : 0 ≤ xn := by omega
                have hx1 : xn < (P : Int) := by omega
                have hbi : ¬ (bl : Int) = 1024 := by rw [unhide HBL]; omega
                have hbb : ((bl : Int) == 1024) = false := by simpa using hbi
                cases off
                · go_wp2_with fail
                  refine (kWriteN (unhide HD3) (unhide HB3).2 xn _ bl c3 bs (unhide HBL) (fun _ => ⟨_, 0, rfl, unhide HF3, unhide HR3⟩) (by have := (unhide HI).2.2.pend; omega) (1, d) (Dk.write_len (unhide HI).2.2.off' hx0 (by rw [(unhide HI).2.2.len]; exact hx1) hbl2)).mono ?_
                  rintro e w4 ⟨rfl, F', hd, hu, hs⟩
                  have HDN := hide hd
                  have HBN : Hid (Below B u w4 ∧ B2 ≤ w4.heap.size) := ⟨(unhide HB3).1.trans (hu.below (unhide HLe _ (unhide HB3).1) (fun k hk => Nat.le_trans (unhide HGE) ((unhide HD3).ge k hk).1)), Nat.le_trans (unhide HB3).2 hu.size⟩
                  clear hd hu hs HD3 HB3 HR3 HF3 hcv

                  go_wp2_with fail
                  refine (kLitN (unhide HDN) true (by rw [(unhide HI).2.2.off']; rfl)).mono ?_
                  rintro e w5 ⟨rfl, hw⟩
                  obtain rfl := hw.symm
                  clear hw
                  go_wp2
                  go_roundw
                  case rel => exact ⟨k + 1, F', _, _, _, by omega, by go_num, rfl, rfl, hide ⟨unhide HDN, unhide HBN, (unhide HI).2.2.same⟩⟩
                  case measure => simp [intOf]; omega
                · go_wp2_with fail
                  refine (kWriteN (unhide HD3) (unhide HB3).2 xn _ bl c3 bs (unhide HBL) (fun _ => ⟨_, 0, rfl, unhide HF3, unhide HR3⟩) (by have := (unhide HI).2.2.pend; omega) (40, d) (Dk.write_off (unhide HI).2.2.off' _ _)).mono ?_
                  rintro e w4 ⟨rfl, F', hd, hu, hs⟩
                  have HDN := hide hd
                  have HBN : Hid (Below B u w4 ∧ B2 ≤ w4.heap.size) := ⟨(unhide HB3).1.trans (hu.below (unhide HLe _ (unhide HB3).1) (fun k hk => Nat.le_trans (unhide HGE) ((unhide HD3).ge k hk).1)), Nat.le_trans (unhide HB3).2 hu.size⟩
                  clear hd hu hs HD3 HB3 HR3 HF3 hcv

                  go_wp2_with fail
                  refine (kLitN (unhide HDN) false (by rw [(unhide HI).2.2.off']; rfl)).mono ?_
                  rintro e w5 ⟨rfl, hw⟩
                  obtain rfl := hw.symm
                  clear hw
                  go_wp2
                  go_roundw
                  case rel => exact ⟨k + 1, F', _, _, _, by omega, by go_num, rfl, rfl, hide ⟨unhide HDN, unhide HBN, (unhide HI).2.2.same⟩⟩
                  case measure => simp [intOf]; omega
        · by_cases hk2 : kind = 2
          · subst hk2
            go_wp2_with (first
              | (refine wpList_load_mid (by rfl) 47 (.tmp 47) (by rfl) b o7 (by rfl) C.toList _ (unhide HR7) stepUnd rfl (by rw [Array.length_toList, (unhide HC1).1]; exact stepInfo) ?_; simp only [Act.put, List.setIfInBounds_toArray, List.set_cons_zero, List.set_cons_succ, Array.toArray_toList])
              | (refine wpList_alloc_row (by rfl) 47 (by rfl) (some 12) (by rfl) N (by exact (unhide HN).symm) _ zStep ?_; intro W1 HX1 HB1 HS1; simp only [Act.put, List.setIfInBounds_toArray, List.set_cons_zero, List.set_cons_succ])
              | (refine wpList_store_row (by rfl) 47 (.tmp 12) (.tmp 48) (by rfl) N C (by rfl) (by rfl) 47 _ (unhide HX1) (by rw [(unhide HC1).1]; exact stepInfo) (by rw [(unhide HC1).1]; rfl) (unhide HC1).2 ?_
                 have HX2 := hide (heapRow_same (unhide HX1) C)
                 have HBW2 := hide (belowRow (unhide HB1) (Nat.le_refl N) C)
                 generalize W1.setRow N C = w2a at *
                 have cN0 : w2a.cell? ⟨N, 0, none⟩ = some (.int .i64 2) := (by rw [cell_of_row w2a N 0 _ _ _ (unhide HX2), unhide HC2]; rfl)
                 simp only [Act.put])
              | (refine wpList_load_row (by rfl) 47 (.tmp 12) (by rfl) N (by rfl) 47 C (0, 0) _ (unhide HX2) stepUnd rfl (by rw [(unhide HC1).1]; exact stepInfo) ?_; simp only [Act.put, List.setIfInBounds_toArray, List.set_cons_zero, List.set_cons_succ]))
            refine (unhide HCT _).mono ?_
            rintro e w2 ⟨rfl, hb⟩
            have hbW : Below wr.heap.size wr w2a := by rw [← unhide HN]; exact unhide HBW2
            have hX3 := (hb.block N (Array.getElem?_eq_some_iff.1 (unhide HX2)).1).trans (unhide HX2)
            have dN0 : w2.cell? ⟨N, 0, none⟩ = some (.int .i64 2) := by rw [cell_of_row w2 N 0 _ _ _ hX3, unhide HC2]; rfl
            have dN1 : w2.cell? ⟨N, 1, none⟩ = some (.int .i64 xn) := by rw [cell_of_row w2 N 1 _ _ _ hX3, unhide HC2]; rfl
            have hb2 : Below wr.heap.size wr w2 := hbW.trans (hb.mono hbW.size)
            have HD2 := hide ((unhide HI).1.below hb2)
            have HB2 : Hid (Below B u w2 ∧ B2 ≤ w2.heap.size) := ⟨(unhide HI).2.1.1.trans (hb2.mono (unhide HLe _ (unhide HI).2.1.1)), Nat.le_trans (unhide HI).2.1.2 hb2.size⟩
            clear hb hbW hX3 hb2 cN0 HX1 HB1 HS1 HX2 HBW2 HCT HR7 HC1 HC2 HN hix HLDM
            cases off
            · by_cases hl0 : left = 0
              · subst hl0
                go_wp2_with fail
                refine (kSyncN (unhide HD2) (by have := (unhide HI).2.2.pend; omega) (40, d.asked) (Dk.sync_blow (unhide HI).2.2.off' ((unhide HI).2.2.fuse_zero (unhide HNB).1 (by omega)).1)).mono ?_
                rintro e w4 ⟨rfl, F', hd, hu, hs⟩
                have HDN := hide hd
                have HBN : Hid (Below B u w4 ∧ B2 ≤ w4.heap.size) := ⟨(unhide HB2).1.trans (hu.below (unhide HLe _ (unhide HB2).1) (fun k hk => Nat.le_trans (unhide HGE) ((unhide HD2).ge k hk).1)), Nat.le_trans (unhide HB2).2 hu.size⟩
                clear hd hu hs HD2 HB2

                go_wp2_with fail
                refine (kLitN (unhide HDN) false (by rw [((unhide HI).2.2.blown (unhide HNB).1 (by omega)).off']; rfl)).mono ?_
                rintro e w5 ⟨rfl, hw⟩
                obtain rfl := hw.symm
                clear hw
                go_wp2
                go_roundw
                case rel => exact ⟨k + 1, F', _, _, _, by omega, by go_num, rfl, rfl, hide ⟨unhide HDN, unhide HBN, (unhide HI).2.2.blown (unhide HNB).1 (by omega)⟩⟩
                case measure => simp [intOf]; omega
              · obtain ⟨left', hl'⟩ : ∃ z, z = wrap64 (left - 1) := ⟨_, rfl⟩
                have HLL := hide hl'
                have hw9 := hl'.symm
                clear hl'
                go_wp2_with fail
                refine (kSyncN (unhide HD2) (by have := (unhide HI).2.2.pend; omega) (0, d.asked.settle fun _ => 1024) (Dk.sync_done (unhide HI).2.2.off' ((unhide HI).2.2.fuse_ne hl0))).mono ?_
                rintro e w4 ⟨rfl, F', hd, hu, hs⟩
                have HDN := hide hd
                have HBN : Hid (Below B u w4 ∧ B2 ≤ w4.heap.size) := ⟨(unhide HB2).1.trans (hu.below (unhide HLe _ (unhide HB2).1) (fun k hk => Nat.le_trans (unhide HGE) ((unhide HD2).ge k hk).1)), Nat.le_trans (unhide HB2).2 hu.size⟩
                clear hd hu hs HD2 HB2

                go_wp2_with fail
                refine (kLitN (unhide HDN) true (by rw [((unhide HI).2.2.settle (unhide HNB).1 (unhide HNB).2 hl0 _).off']; rfl)).mono ?_
                rintro e w5 ⟨rfl, hw⟩
                obtain rfl := hw.symm
                clear hw
                go_wp2
                go_roundw
                case rel => exact ⟨k + 1, F', _, _, _, by omega, by go_num, rfl, rfl, hide ⟨unhide HDN, unhide HBN, by rw [unhide HLL]; exact (unhide HI).2.2.settle (unhide HNB).1 (unhide HNB).2 hl0 _⟩⟩
                case measure => simp [intOf]; omega
            · go_wp2_with fail
              refine (kSyncN (unhide HD2) (by have := (unhide HI).2.2.pend; omega) (40, d) (Dk.sync_off (unhide HI).2.2.off')).mono ?_
              rintro e w4 ⟨rfl, F', hd, hu, hs⟩
              have HDN := hide hd
              have HBN : Hid (Below B u w4 ∧ B2 ≤ w4.heap.size) := ⟨(unhide HB2).1.trans (hu.below (unhide HLe _ (unhide HB2).1) (fun k hk => Nat.le_trans (unhide HGE) ((unhide HD2).ge k hk).1)), Nat.le_trans (unhide HB2).2 hu.size⟩
              clear hd hu hs HD2 HB2

              go_wp2_with fail
              refine (kLitN (unhide HDN) false (by rw [(unhide HI).2.2.off']; rfl)).mono ?_
              rintro e w5 ⟨rfl, hw⟩
              obtain rfl := hw.symm
              clear hw
              go_wp2
              go_roundw
              case rel => exact ⟨k + 1, F', _, _, _, by omega, by go_num, rfl, rfl, hide ⟨unhide HDN, unhide HBN, (unhide HI).2.2.same⟩⟩
              case measure => simp [intOf]; omega
          · have hb0 : (kind != 0) = true := by simpa using hk0
            have hb2 : (kind != 2) = true := by simpa using hk2
            go_wp2_with (first
              | (refine wpList_load_mid (by rfl) 47 (.tmp 47) (by rfl) b o7 (by rfl) C.toList _ (unhide HR7) stepUnd rfl (by rw [Array.length_toList, (unhide HC1).1]; exact stepInfo) ?_; simp only [Act.put, List.setIfInBounds_toArray, List.set_cons_zero, List.set_cons_succ, Array.toArray_toList])
              | (refine wpList_alloc_row (by rfl) 47 (by rfl) (some 12) (by rfl) N (by exact (unhide HN).symm) _ zStep ?_; intro W1 HX1 HB1 HS1; simp only [Act.put, List.setIfInBounds_toArray, List.set_cons_zero, List.set_cons_succ])
              | (refine wpList_store_row (by rfl) 47 (.tmp 12) (.tmp 48) (by rfl) N C (by rfl) (by rfl) 47 _ (unhide HX1) (by rw [(unhide HC1).1]; exact stepInfo) (by rw [(unhide HC1).1]; rfl) (unhide HC1).2 ?_
                 have HX2 := hide (heapRow_same (unhide HX1) C)
                 have HBW2 := hide (belowRow (unhide HB1) (Nat.le_refl N) C)
                 generalize W1.setRow N C = w2a at *
                 have cN0 : w2a.cell? ⟨N, 0, none⟩ = some (.int .i64 kind) := (by rw [cell_of_row w2a N 0 _ _ _ (unhide HX2), unhide HC2]; rfl)
                 simp only [Act.put])
              | (refine wpList_load_row (by rfl) 47 (.tmp 12) (by rfl) N (by rfl) 47 C (0, 0) _ (unhide HX2) stepUnd rfl (by rw [(unhide HC1).1]; exact stepInfo) ?_; simp only [Act.put, List.setIfInBounds_toArray, List.set_cons_zero, List.set_cons_succ]))
            go_roundw
            case rel =>
              have hbW : Below wr.heap.size wr w2a := by rw [← unhide HN]; exact unhide HBW2
              exact ⟨k + 1, F, d, left, off, by omega, by go_num, rfl, rfl, hide ⟨(unhide HI).1.below hbW, ⟨(unhide HI).2.1.1.trans (hbW.mono (unhide HLe _ (unhide HI).2.1.1)), Nat.le_trans (unhide HI).2.1.2 hbW.size⟩, (unhide HI).2.2.same⟩⟩
            case measure => simp [intOf]; omega
      · have hkk : k = m := by omega
        subst hkk
        obtain ⟨p3, hp3⟩ : ∃ p, p = full 3 := ⟨_, rfl⟩
        have HQ3 := hide (lPage 3)
        rw [← hp3] at HQ3
        have HP3 : Hid (p3.length = 1024) := by rw [hp3]; exact full_len _
        clear hp3
        go_wp2_with fail
        refine (kCrash (unhide HI).1 (by have := (unhide HI).2.2.pend; omega) none [] 0 0 0 (fun h => absurd h (by simp))).mono ?_
        rintro e w4 ⟨rfl, F4, hd, hu, hs⟩
        have HJ0 : Hid (Dsk B2 w4 D F4 (d.crash (share [] 0 0)) ∧ (Below B u w4 ∧ B2 ≤ w4.heap.size) ∧ After P p3 0 (d.crash (share [] 0 0))) :=
          ⟨hd, ⟨(unhide HI).2.1.1.trans (hu.below (unhide HLe _ (unhide HI).2.1.1) (fun k hk => Nat.le_trans (unhide HGE) ((unhide HI).1.ge k hk).1)), Nat.le_trans (unhide HI).2.1.2 hu.size⟩,
            ⟨rfl, rfl, rfl, by rw [← (unhide HI).2.2.len]; exact d.landed_length _ _, fun h => absurd h (Nat.lt_irrefl _)⟩⟩
        clear hd hu hs HI
        go_wp2
        go_loopw [17] (fun vi wr => ∃ (j : Nat) (F : List Nat) (d : Dk), j ≤ 40 ∧ vi = .int .i64 j ∧ Hid (Dsk B2 wr D F d ∧ (Below B u wr ∧ B2 ≤ wr.heap.size) ∧ After P p3 j d)) (fun vi _ => 40 - (intOf vi).toNat)
        case atStart => exact ⟨0, F4, _, Nat.zero_le _, rfl, HJ0⟩
        case round =>
          clear HJ0 F4 d F
          obtain ⟨j, F, d, hj, rfl, HI⟩ := hrel
          by_cases hlt : j < 40
          · have hji : (j : Int) < 40 := by omega
            go_wp2_with fail
            refine (unhide HQ3 _).mono ?_
            rintro e w5 ⟨rfl, hx, hb, hs⟩
            have HD5 := hide ((unhide HI).1.below hb)
            have HB5 : Hid (Below B u w5 ∧ B2 ≤ w5.heap.size) := ⟨(unhide HI).2.1.1.trans (hb.mono (unhide HLe _ (unhide HI).2.1.1)), Nat.le_trans (unhide HI).2.1.2 hb.size⟩
            have HX5 := hide hx
            obtain ⟨NB, hNB⟩ : ∃ z, z = wr.heap.size := ⟨_, rfl⟩
            have HF5 : Hid (NB ∉ F) := fun hx => by have := ((unhide HI).1.ge _ hx).2; omega
            rw [← hNB] at HX5
            rw [← hNB]
            clear hx hb hs hNB
            go_wp2_with fail
            refine (kWriteN (unhide HD5) (unhide HB5).2 0 _ 1024 1024 p3 (unhide HP3).symm (fun _ => ⟨_, 0, rfl, unhide HF5, row_range (unhide HX5)⟩) (by rw [(unhide HI).2.2.pend]; exact Nat.zero_le _) (0, d.put 0 p3) (Dk.write_ok (n := 0) (unhide HI).2.2.off (by rw [(unhide HI).2.2.fuse]; decide) (by rw [(unhide HI).2.2.len]; exact unhide HP0) (unhide HP3))).mono ?_
            rintro e w6 ⟨rfl, F6, hd, hu, hs⟩
            have HD6 := hide hd
            have HB6 : Hid (Below B u w6 ∧ B2 ≤ w6.heap.size) := ⟨(unhide HB5).1.trans (hu.below (unhide HLe _ (unhide HB5).1) (fun k hk => Nat.le_trans (unhide HGE) ((unhide HD5).ge k hk).1)), Nat.le_trans (unhide HB5).2 hu.size⟩
            clear hd hu hs HF5 HX5
            go_wp2_with fail
            refine (kSyncN (unhide HD6) (by show (d.pend ++ [(0, p3)]).length ≤ _; rw [(unhide HI).2.2.pend]; exact (by decide : (1 : Nat) ≤ 1000000000)) (0, (d.put 0 p3).settle fun _ => 1024) (Dk.sync_ok (unhide HI).2.2.off (by show d.fuse < 0; rw [(unhide HI).2.2.fuse]; decide))).mono ?_
            rintro e w7 ⟨rfl, F7, hd, hu, hs⟩
            have HNX : Hid (Dsk B2 w7 D F7 ((d.put 0 p3).settle fun _ => 1024) ∧ (Below B u w7 ∧ B2 ≤ w7.heap.size) ∧ After P p3 (j + 1) ((d.put 0 p3).settle fun _ => 1024)) :=
              ⟨hd, ⟨(unhide HB6).1.trans (hu.below (unhide HLe _ (unhide HB6).1) (fun k hk => Nat.le_trans (unhide HGE) ((unhide HD6).ge k hk).1)), Nat.le_trans (unhide HB6).2 hu.size⟩, (unhide HI).2.2.next (unhide HI).1.ok (unhide HP3) (unhide HP0)⟩
            clear hd hu hs HD5 HB5 HD6 HB6 HI
            go_wp2
            go_roundw
            case rel => exact ⟨j + 1, F7, _, by omega, by go_num, HNX⟩
            case measure => simp [intOf]; omega
          · have hjj : j = 40 := by omega
            subst hjj
            obtain ⟨LB, hLB⟩ : ∃ z, z = wr.heap.size := ⟨_, rfl⟩
            have hDw : Dsk B2 wr.drew D F d := (unhide HI).1.keep fun _ _ => rfl
            have hlit := kLitN hDw true (by rw [(unhide HI).2.2.off]; rfl)
            have hdur := kDurableD hDw
            have hsz : wr.drew.heap.size = LB := hLB.symm
            have HGB : Hid (B ≤ LB) := by rw [hLB]; exact unhide HLe _ (unhide HI).2.1.1
            rw [(unhide HI).2.2.len, hsz] at hdur
            have hbd : Below B u wr.drew := belowDrew (unhide HI).2.1.1
            obtain ⟨P3, hP3⟩ : ∃ Q : ByteArray, Q = ⟨p3.toArray⟩ := ⟨_, rfl⟩
            have HL0 : Hid ((strs d.lies)[0]? = some (.string P3)) := by
              have h0 : 0 < d.lies.length := by rw [(unhide HI).2.2.len]; exact unhide HP0
              have h1 := (unhide HI).2.2.has (by decide)
              rw [List.getD_eq_getElem?_getD, List.getElem?_eq_getElem h0, Option.getD_some] at h1
              show (strs d.lies)[0]? = some (.string P3)
              simp [strs, h0, h1, str, hP3]
            have HCV : Hid (∀ (W : World) (G : Nat), W.heap[G]? = some (.cells (img p3) 5 (0, 0)) → (convert 28 9 (.slice (some ⟨G, 0, none⟩) 1024 1024)).run Try.prog W = .ok (.string P3) W) := fun W G hW => by rw [hP3]; exact conv_range (row_range hW) 1024 1024 (unhide HP3).symm
            have HLT := hide hlit
            have HDU := hide hdur
            have HBD := hide hbd
            have hPi : (0 : Int) < (P : Int) := by have := unhide HP0; omega
            clear hlit hdur hbd hDw hLB hsz hP3 HI
            go_wp2
            go_region_with (first
              | (go_at_call 17; refine (unhide HLT).mono ?_; rintro e wa ⟨rfl, hw⟩; obtain rfl := hw.symm; clear hw)
              | (go_at_call 18; refine (unhide HDU).mono ?_; rintro e wb ⟨rfl, hx, hb, hs⟩; have hcl : wb.cell? ⟨LB, 0, none⟩ = some (.string P3) := (cell_of_row wb LB 0 _ _ _ hx).trans (unhide HL0); have HBb : Hid (Below B u wb) := (unhide HBD).trans (⟨hb.os, hb.tape, hb.output, hb.size, fun q hq => hb.block q (Nat.lt_of_lt_of_le hq (unhide HGB))⟩); clear hx hb hs)
              | (go_at_call 33; refine (unhide HQ3 _).mono ?_; rintro e wc ⟨rfl, hx, hb, hs⟩; have hcc : wc.cell? ⟨LB, 0, none⟩ = some (.string P3) := (hb.cell (World.block_lt_of_cell? wb _ hcl)).trans hcl; have hcv := unhide HCV wc _ hx; have HBc : Hid (Below B u wc) := (unhide HBb).trans (hb.mono (unhide HLe _ (unhide HBb))); clear hx hb hs))
            all_goals (go_wp2; go_ret; exact ⟨rfl, unhide HBc⟩)
end Go.Proofs.Ytfdibmbffmgikaa
