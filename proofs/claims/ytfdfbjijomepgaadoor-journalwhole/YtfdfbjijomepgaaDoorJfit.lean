/- JournalWhole: fit. -/
import Derived.Test.YtfdfbjijomepgaaDoorJz
namespace Go.Proofs.YtfdfbjijomepgaaDoor
open Go.RowKit

/-- what fit gives -/
structure Fits (r : Nat) (l : List Pg) : Prop where
  len : l.length ≤ r
  up : rises l
  body : ∀ p ∈ l, p.body.size ≤ 996
  fit : ∀ p ∈ l, p.Fit
theorem Fits.nil (r : Nat) : Fits r [] := ⟨Nat.zero_le _, fun i hi _ => by simp at hi, fun p hp => (by cases hp), fun p hp => (by cases hp)⟩
theorem Fits.snoc {r : Nat} {l : List Pg} (h : Fits r l) (hl : l.length < r) (p : Pg) (hb : p.body.size ≤ 996) (hf : p.Fit) (hu : ∀ (h0 : 0 < l.length), l[l.length - 1].num < p.num) : Fits r (l ++ [p]) := by
  refine ⟨by rw [List.length_append]; exact hl, fun i hi hk => ?_, fun q hq => ?_, fun q hq => ?_⟩
  · rw [List.length_append] at hi
    have hi' : i < l.length := by simpa using hi
    rw [List.getElem_append_left hi']
    by_cases e : i + 1 < l.length
    · rw [List.getElem_append_left e]
      exact h.up i e e
    · obtain rfl : i = l.length - 1 := by omega
      have h0 : 0 < l.length := by omega
      have e2 : (l ++ [p])[l.length - 1 + 1]'(by rw [List.length_append]; simp; omega) = p := by
        rw [List.getElem_append_right (by omega)]
        simp [show l.length - 1 + 1 - l.length = 0 by omega]
      rw [e2]
      exact hu h0
  · rcases List.mem_append.1 hq with hq | hq
    · exact h.body q hq
    · rw [List.mem_singleton.1 hq]; exact hb
  · rcases List.mem_append.1 hq with hq | hq
    · exact h.fit q hq
    · rw [List.mem_singleton.1 hq]; exact hf
theorem cut996 (b : ByteArray) (hb : 996 < b.size) : ∃ c : ByteArray, c.size = 996 ∧ ∀ W : World, (Instr.slice 9 (.string b) none (some (.int .i64 996)) none).run Tryd.prog W = .ok (.string c) W := by
  refine ⟨b.extract 0 996, by simp; omega, fun W => ?_⟩
  rw [run_slice_string_h W 9 _ Tryd.underlying9 .i64 996 (by omega) (by omega)]
  rfl
theorem flat_snoc (l : List Pg) (p : Pg) : flatP (l ++ [p]) = flatP l ++ [.int .u8 (p.kind : Int), .int .u32 (p.num : Int), .int .u64 (p.ser : Int), .string p.body] := by rw [flatP_append, flatP_one]; rfl
theorem four_new6 (W : World) (p : Addr) (x a b c d : Value) (t : TypeId) : ∀ j u, [a, b, c, d][j]? = some u → ((W.setCell p x).alloc (.cells #[a, b, c, d] t)).cell? ((⟨W.heap.size, 0, none⟩ : Addr).add j) = some u := by
  have h := four_new (W.setCell p x) a b c d t
  rwa [show (W.setCell p x).heap.size = W.heap.size by simp [World.setCell]] at h
theorem own5 {wr W5 : World} {M N m : Nat} {v : Value} {xs : List Value} (h : wr.ownsRow N 70 4 v m xs) (hb : Below M wr W5) (hM : M = wr.heap.size) (j : Nat) : (W5.drewN j).ownsRow N 70 4 v m xs := own_same h fun g _ hv => hb.block g (by rw [hM]; exact (own_lt h hv).2)
theorem own6 {wr W5 : World} {M N m : Nat} {v : Value} {xs : List Value} (h : wr.ownsRow N 70 4 v m xs) (hb : Below M wr W5) (hM : M = wr.heap.size) (j : Nat) (x : Value) : ((W5.drewN j).setCell ⟨M, 3, none⟩ x).ownsRow N 70 4 v m xs := own_same (own5 h hb hM j) fun g _ hv => by
  have := (own_lt h hv).2
  exact Deep.blk_setCell_other (W5.drewN j) ⟨M, 3, none⟩ x g (fun e => by have e : g = M := e; omega)
set_option maxRecDepth 100000 in
set_option maxHeartbeats 8000000 in
theorem lFit (lp : List Pg) (n r : Nat) (hnn : n = lp.length) (hn : n ≤ 9223372036854775807) (hr : r ≤ 198) (hfit : ∀ p ∈ lp, p.Fit) (ao : Option Addr) (cap : Nat) (w : World) (hl : Pgs w ao lp) :
    Calls Tryd.prog 16 #[.slice ao n cap, .int .i64 (r : Int)] w fun e w' => ∃ (l : List Pg) (v : Value), e = .returned v ∧ Fits r l ∧ w'.ownsRow w.heap.size 70 4 v l.length (flatP l) ∧ Below w.heap.size w w' := by
  obtain ⟨N, hN⟩ : ∃ N, N = w.heap.size := ⟨_, rfl⟩
  have HN := hide hN
  have HNN := hide hnn
  have HLP := hide hl
  have HFT := hide hfit
  obtain ⟨i0, hi, hz0, hz1, hz2⟩ := info_parts4
  have hni : (n : Int) ≤ 9223372036854775807 := by omega
  rw [← hN]
  clear hN hl hnn hfit
  go_enter Tryd.func16, Tryd.ntmps16
  go_wp2
  go_loopw [5, 6] (fun v i wr => ∃ (k : Nat) (l : List Pg), k ≤ n ∧ i = .int .i64 k ∧ Hid (Fits r l ∧ wr.ownsRow N 70 4 v l.length (flatP l) ∧ Below N w wr)) (fun _ i _ => n - (intOf i).toNat)
  case atStart => exact ⟨0, [], Nat.zero_le _, rfl, Fits.nil r, World.ownsRow_nil _ _ _ _, Below.refl _ _⟩
  case round =>
    obtain ⟨k, l, hk, rfl, HI⟩ := hrel
    by_cases hlt : k < n
    · obtain ⟨m, hm⟩ : ∃ m, m = l.length := ⟨_, rfl⟩
      have hki : (k : Int) < (n : Int) := by omega
      have hml : (m : Int) ≤ 198 := by have := (unhide HI).1.len; omega
      have HM := hide hm
      have hkl : k < lp.length := by rw [← unhide HNN]; exact hlt
      have hbw : Below w.heap.size w wr := by rw [← unhide HN]; exact (unhide HI).2.2
      obtain ⟨g2, o2, hao, hr2, hgl2⟩ := ((unhide HLP).below hbw).slot k hkl
      subst hao
      have hix := ixPages g2 o2 n cap k hlt
      have hqf : (slotD lp k).Fit := by
        rw [slotD, List.getD_eq_getElem?_getD, List.getElem?_eq_getElem hkl]
        exact unhide HFT _ (List.getElem_mem hkl)
      generalize slotD lp k = q at *
      obtain ⟨qk, qn, qs, qb⟩ := q
      have y0 : wr.cell? ⟨g2, o2 + k * 4, none⟩ = some (.int .u8 (qk : Int)) := hr2 0 _ rfl
      have y1 : wr.cell? ⟨g2, o2 + k * 4 + 1, none⟩ = some (.int .u32 (qn : Int)) := hr2 1 _ rfl
      have y2 : wr.cell? ⟨g2, o2 + k * 4 + 2, none⟩ = some (.int .u64 (qs : Int)) := hr2 2 _ rfl
      have y3 : wr.cell? ⟨g2, o2 + k * 4 + 3, none⟩ = some (.string qb) := hr2 3 _ rfl
      generalize o2 + k * 4 = j5 at *
      obtain ⟨M, hM⟩ : ∃ M, M = wr.heap.size := ⟨_, rfl⟩
      have HMM := hide hM
      have HNM : Hid (N ≤ M) := by rw [hM, unhide HN]; exact Nat.le_trans (by rw [← unhide HN]; exact Nat.le_refl _) hbw.size
      have HQF := hide hqf
      clear hr2 hM hbw hgl2 hkl hqf hm
      have hown := (unhide HI).2.1
      have hfits := (unhide HI).1
      rw [← unhide HM] at hown
      by_cases hmr : m < r
      · have hmi : (m : Int) < (r : Int) := by omega
        rcases hown.2 with ⟨rfl, hm0⟩ | ⟨g, c, cur, rfl, hg0, hblk, hmc, _, hcsz, htk⟩
        · subst hm0
          have hl0 : l = [] := List.length_eq_zero_iff.1 (unhide HM).symm
          by_cases hb : 996 < qb.size
          · have hbi : (996 : Int) < (qb.size : Int) := by omega
            obtain ⟨b6, hb6, hcut⟩ := cut996 qb hb
            go_wp2_with (first
              | (refine wpList_alloc_row (by rfl) 70 (by rfl) (some 7) (by rfl) M (by exact (unhide HMM).symm) _ zeroPg ?_; intro W4 HX4 HB4 HS4; simp only [Act.put, List.setIfInBounds_toArray, List.set_cons_zero, List.set_cons_succ])
              | (refine wpList_store_hid (by rfl) 70 (.tmp 7) (.tmp 23) (by rfl) M #[.int .u8 (qk : Int), .int .u32 (qn : Int), .int .u64 (qs : Int), .string qb] (by rfl) (by rfl) 70 _ (unhide HX4) pgInfo rfl (page_one _ _ _ _) ?_; intro W5 HX5 HE5; simp only [Act.put]
                 have HB5 : Hid (Below M wr W5) := (by rw [unhide HE5]; exact belowRow (unhide HB4) (Nat.le_refl _) _)
                 have z0 : W5.cell? ⟨M, 0, none⟩ = some (.int .u8 (qk : Int)) := (by rw [cell_of_row W5 M 0 _ _ _ (unhide HX5)]; rfl)
                 have z1 : W5.cell? ⟨M, 1, none⟩ = some (.int .u32 (qn : Int)) := (by rw [cell_of_row W5 M 1 _ _ _ (unhide HX5)]; rfl)
                 have z2 : W5.cell? ⟨M, 2, none⟩ = some (.int .u64 (qs : Int)) := (by rw [cell_of_row W5 M 2 _ _ _ (unhide HX5)]; rfl)
                 have z3 : W5.cell? ⟨M, 3, none⟩ = some (.string qb) := (by rw [cell_of_row W5 M 3 _ _ _ (unhide HX5)]; rfl)
                 have zf : W5.frozen? ⟨M, 3, none⟩ = false := (by simp [World.frozen?, unhide HX5])
                 skip)
              | fail)
            have HB6 : Hid (Below N w W5) := (unhide HI).2.2.trans ((unhide HB5).mono (unhide HNM))
            have HM5 : Hid (M < W5.heap.size) := (Array.getElem?_eq_some_iff.1 (unhide HX5)).1
            clear HE5 HX4 HB4 HS4
            go_quiet (fail)
            go_wp2_with (first
              | (refine wpList_load_row (by rfl) 70 (.tmp 7) (by rfl) M (by rfl) 70 #[.int .u8 (qk : Int), .int .u32 (qn : Int), .int .u64 (qs : Int), .string b6] (0, 0) _ (D.heapCell_same (w := W5.drewN _) (unhide HX5) 3 (.string b6)) pgUnd rfl pgInfo ?_; simp only [Act.put, List.setIfInBounds_toArray, List.set_cons_zero, List.set_cons_succ])
              | (at_builtin; refine wpList_put _ rfl (.tmp 47) (.tmp 49) 25 rfl N 70 i0 (.agg #[.int .u8 0, .int .u32 0, .int .u64 0, .string ⟨#[]⟩]) 4 32 apUnd hi hz0 hz1 hz2 rfl (by decide) (.slice none 0 0) 0 (flatP l) rfl ((own6 hown (unhide HB5) (unhide HMM) _ _).alloc _) ⟨_, 0, none⟩ 1 1 [.int .u8 (qk : Int), .int .u32 (qn : Int), .int .u64 (qs : Int), .string b6] rfl rfl (four_new6 (W5.drewN _) _ _ _ _ _ _ _) (by simp [Value.oneCell']) (by simp only [maxLen]; omega) (by omega) (by simp; have := unhide HNM; have := unhide HM5; omega) ?_; intro v' w10 hown' hgrow hnew; clear hnew)
              | fail)
            have HY : Hid (Fits r (l ++ [⟨qk, qn, qs, b6⟩]) ∧ w10.ownsRow N 70 4 v' (l ++ [(⟨qk, qn, qs, b6⟩ : Pg)]).length (flatP (l ++ [⟨qk, qn, qs, b6⟩])) ∧ Below N w w10) := by
              refine ⟨hfits.snoc (by rw [← unhide HM]; exact hmr) (⟨qk, qn, qs, b6⟩ : Pg) (by show b6.size ≤ 996; omega) ⟨(unhide HQF).1, (unhide HQF).2, (unhide HQF).3⟩ (fun h0 => absurd h0 (by rw [hl0]; simp)), ?_, ?_⟩
              · rw [flat_snoc, List.length_append, ← unhide HM]
                exact hown'
              · exact ((D.belowCell (belowDN (unhide HB6) _) (p := ⟨M, 3, none⟩) (unhide HNM) _).alloc (by simp; have := unhide HNM; have := unhide HM5; omega) _).grown hgrow (by simp; have := unhide HNM; have := unhide HM5; omega) (fun q e => (by cases e))
            clear hown' hgrow
            go_wp2
            go_roundw
            case rel => exact ⟨k + 1, l ++ [(⟨qk, qn, qs, b6⟩ : Pg)], by omega, by go_num, unhide HY⟩
            case measure => simp [intOf]; omega
          · have hbi : ¬ (996 : Int) < (qb.size : Int) := by omega
            go_wp2_with (first
              | (refine wpList_alloc_row (by rfl) 70 (by rfl) (some 7) (by rfl) M (by exact (unhide HMM).symm) _ zeroPg ?_; intro W4 HX4 HB4 HS4; simp only [Act.put, List.setIfInBounds_toArray, List.set_cons_zero, List.set_cons_succ])
              | (refine wpList_store_hid (by rfl) 70 (.tmp 7) (.tmp 23) (by rfl) M #[.int .u8 (qk : Int), .int .u32 (qn : Int), .int .u64 (qs : Int), .string qb] (by rfl) (by rfl) 70 _ (unhide HX4) pgInfo rfl (page_one _ _ _ _) ?_; intro W5 HX5 HE5; simp only [Act.put]
                 have HB5 : Hid (Below M wr W5) := (by rw [unhide HE5]; exact belowRow (unhide HB4) (Nat.le_refl _) _)
                 have z0 : W5.cell? ⟨M, 0, none⟩ = some (.int .u8 (qk : Int)) := (by rw [cell_of_row W5 M 0 _ _ _ (unhide HX5)]; rfl)
                 have z1 : W5.cell? ⟨M, 1, none⟩ = some (.int .u32 (qn : Int)) := (by rw [cell_of_row W5 M 1 _ _ _ (unhide HX5)]; rfl)
                 have z2 : W5.cell? ⟨M, 2, none⟩ = some (.int .u64 (qs : Int)) := (by rw [cell_of_row W5 M 2 _ _ _ (unhide HX5)]; rfl)
                 have z3 : W5.cell? ⟨M, 3, none⟩ = some (.string qb) := (by rw [cell_of_row W5 M 3 _ _ _ (unhide HX5)]; rfl)
                 have zf : W5.frozen? ⟨M, 3, none⟩ = false := (by simp [World.frozen?, unhide HX5])
                 skip)
              | fail)
            have HB6 : Hid (Below N w W5) := (unhide HI).2.2.trans ((unhide HB5).mono (unhide HNM))
            have HM5 : Hid (M < W5.heap.size) := (Array.getElem?_eq_some_iff.1 (unhide HX5)).1
            clear HE5 HX4 HB4 HS4
            go_quiet (fail)
            go_wp2_with (first
              | (at_builtin; refine wpList_put _ rfl (.tmp 47) (.tmp 49) 25 rfl N 70 i0 (.agg #[.int .u8 0, .int .u32 0, .int .u64 0, .string ⟨#[]⟩]) 4 32 apUnd hi hz0 hz1 hz2 rfl (by decide) (.slice none 0 0) 0 (flatP l) rfl ((own5 hown (unhide HB5) (unhide HMM) _).alloc _) ⟨_, 0, none⟩ 1 1 [.int .u8 (qk : Int), .int .u32 (qn : Int), .int .u64 (qs : Int), .string qb] rfl rfl (four_new _ _ _ _ _ _) (by simp [Value.oneCell']) (by simp only [maxLen]; omega) (by omega) (by simp; have := unhide HNM; have := unhide HM5; omega) ?_; intro v' w10 hown' hgrow hnew; clear hnew)
              | fail)
            have HY : Hid (Fits r (l ++ [⟨qk, qn, qs, qb⟩]) ∧ w10.ownsRow N 70 4 v' (l ++ [(⟨qk, qn, qs, qb⟩ : Pg)]).length (flatP (l ++ [⟨qk, qn, qs, qb⟩])) ∧ Below N w w10) := by
              refine ⟨hfits.snoc (by rw [← unhide HM]; exact hmr) (⟨qk, qn, qs, qb⟩ : Pg) (by show qb.size ≤ 996; omega) ⟨(unhide HQF).1, (unhide HQF).2, (unhide HQF).3⟩ (fun h0 => absurd h0 (by rw [hl0]; simp)), ?_, ?_⟩
              · rw [flat_snoc, List.length_append, ← unhide HM]
                exact hown'
              · exact ((belowDN (unhide HB6) _).alloc (by simp; have := unhide HNM; have := unhide HM5; omega) _).grown hgrow (by simp; have := unhide HNM; have := unhide HM5; omega) (fun q e => (by cases e))
            clear hown' hgrow
            go_wp2
            go_roundw
            case rel => exact ⟨k + 1, l ++ [(⟨qk, qn, qs, qb⟩ : Pg)], by omega, by go_num, unhide HY⟩
            case measure => simp [intOf]; omega
        · by_cases hm0 : m = 0
          · subst hm0
            have hl0 : l = [] := List.length_eq_zero_iff.1 (unhide HM).symm
            clear hblk hcsz htk
            by_cases hb : 996 < qb.size
            · have hbi : (996 : Int) < (qb.size : Int) := by omega
              obtain ⟨b6, hb6, hcut⟩ := cut996 qb hb
              go_wp2_with (first
                | (refine wpList_alloc_row (by rfl) 70 (by rfl) (some 7) (by rfl) M (by exact (unhide HMM).symm) _ zeroPg ?_; intro W4 HX4 HB4 HS4; simp only [Act.put, List.setIfInBounds_toArray, List.set_cons_zero, List.set_cons_succ])
                | (refine wpList_store_hid (by rfl) 70 (.tmp 7) (.tmp 23) (by rfl) M #[.int .u8 (qk : Int), .int .u32 (qn : Int), .int .u64 (qs : Int), .string qb] (by rfl) (by rfl) 70 _ (unhide HX4) pgInfo rfl (page_one _ _ _ _) ?_; intro W5 HX5 HE5; simp only [Act.put]
                   have HB5 : Hid (Below M wr W5) := (by rw [unhide HE5]; exact belowRow (unhide HB4) (Nat.le_refl _) _)
                   have z0 : W5.cell? ⟨M, 0, none⟩ = some (.int .u8 (qk : Int)) := (by rw [cell_of_row W5 M 0 _ _ _ (unhide HX5)]; rfl)
                   have z1 : W5.cell? ⟨M, 1, none⟩ = some (.int .u32 (qn : Int)) := (by rw [cell_of_row W5 M 1 _ _ _ (unhide HX5)]; rfl)
                   have z2 : W5.cell? ⟨M, 2, none⟩ = some (.int .u64 (qs : Int)) := (by rw [cell_of_row W5 M 2 _ _ _ (unhide HX5)]; rfl)
                   have z3 : W5.cell? ⟨M, 3, none⟩ = some (.string qb) := (by rw [cell_of_row W5 M 3 _ _ _ (unhide HX5)]; rfl)
                   have zf : W5.frozen? ⟨M, 3, none⟩ = false := (by simp [World.frozen?, unhide HX5])
                   skip)
                | fail)
              have HB6 : Hid (Below N w W5) := (unhide HI).2.2.trans ((unhide HB5).mono (unhide HNM))
              have HM5 : Hid (M < W5.heap.size) := (Array.getElem?_eq_some_iff.1 (unhide HX5)).1
              clear HE5 HX4 HB4 HS4
              go_quiet (fail)
              go_wp2_with (first
                | (refine wpList_load_row (by rfl) 70 (.tmp 7) (by rfl) M (by rfl) 70 #[.int .u8 (qk : Int), .int .u32 (qn : Int), .int .u64 (qs : Int), .string b6] (0, 0) _ (D.heapCell_same (w := W5.drewN _) (unhide HX5) 3 (.string b6)) pgUnd rfl pgInfo ?_; simp only [Act.put, List.setIfInBounds_toArray, List.set_cons_zero, List.set_cons_succ])
                | (at_builtin; refine wpList_put _ rfl (.tmp 47) (.tmp 49) 25 rfl N 70 i0 (.agg #[.int .u8 0, .int .u32 0, .int .u64 0, .string ⟨#[]⟩]) 4 32 apUnd hi hz0 hz1 hz2 rfl (by decide) (.slice (some ⟨g, 0, none⟩) 0 c) 0 (flatP l) rfl ((own6 hown (unhide HB5) (unhide HMM) _ _).alloc _) ⟨_, 0, none⟩ 1 1 [.int .u8 (qk : Int), .int .u32 (qn : Int), .int .u64 (qs : Int), .string b6] rfl rfl (four_new6 (W5.drewN _) _ _ _ _ _ _ _) (by simp [Value.oneCell']) (by simp only [maxLen]; omega) (by omega) (by simp; have := unhide HNM; have := unhide HM5; omega) ?_; intro v' w10 hown' hgrow hnew; clear hnew)
                | fail)
              have HY : Hid (Fits r (l ++ [⟨qk, qn, qs, b6⟩]) ∧ w10.ownsRow N 70 4 v' (l ++ [(⟨qk, qn, qs, b6⟩ : Pg)]).length (flatP (l ++ [⟨qk, qn, qs, b6⟩])) ∧ Below N w w10) := by
                refine ⟨hfits.snoc (by rw [← unhide HM]; exact hmr) (⟨qk, qn, qs, b6⟩ : Pg) (by show b6.size ≤ 996; omega) ⟨(unhide HQF).1, (unhide HQF).2, (unhide HQF).3⟩ (fun h0 => absurd h0 (by rw [hl0]; simp)), ?_, ?_⟩
                · rw [flat_snoc, List.length_append, ← unhide HM]
                  exact hown'
                · exact ((D.belowCell (belowDN (unhide HB6) _) (p := ⟨M, 3, none⟩) (unhide HNM) _).alloc (by simp; have := unhide HNM; have := unhide HM5; omega) _).grown hgrow (by simp; have := unhide HNM; have := unhide HM5; omega) (fun q e => (own_lt hown e).1)
              clear hown' hgrow
              go_wp2
              go_roundw
              case rel => exact ⟨k + 1, l ++ [(⟨qk, qn, qs, b6⟩ : Pg)], by omega, by go_num, unhide HY⟩
              case measure => simp [intOf]; omega
            · have hbi : ¬ (996 : Int) < (qb.size : Int) := by omega
              go_wp2_with (first
                | (refine wpList_alloc_row (by rfl) 70 (by rfl) (some 7) (by rfl) M (by exact (unhide HMM).symm) _ zeroPg ?_; intro W4 HX4 HB4 HS4; simp only [Act.put, List.setIfInBounds_toArray, List.set_cons_zero, List.set_cons_succ])
                | (refine wpList_store_hid (by rfl) 70 (.tmp 7) (.tmp 23) (by rfl) M #[.int .u8 (qk : Int), .int .u32 (qn : Int), .int .u64 (qs : Int), .string qb] (by rfl) (by rfl) 70 _ (unhide HX4) pgInfo rfl (page_one _ _ _ _) ?_; intro W5 HX5 HE5; simp only [Act.put]
                   have HB5 : Hid (Below M wr W5) := (by rw [unhide HE5]; exact belowRow (unhide HB4) (Nat.le_refl _) _)
                   have z0 : W5.cell? ⟨M, 0, none⟩ = some (.int .u8 (qk : Int)) := (by rw [cell_of_row W5 M 0 _ _ _ (unhide HX5)]; rfl)
                   have z1 : W5.cell? ⟨M, 1, none⟩ = some (.int .u32 (qn : Int)) := (by rw [cell_of_row W5 M 1 _ _ _ (unhide HX5)]; rfl)
                   have z2 : W5.cell? ⟨M, 2, none⟩ = some (.int .u64 (qs : Int)) := (by rw [cell_of_row W5 M 2 _ _ _ (unhide HX5)]; rfl)
                   have z3 : W5.cell? ⟨M, 3, none⟩ = some (.string qb) := (by rw [cell_of_row W5 M 3 _ _ _ (unhide HX5)]; rfl)
                   have zf : W5.frozen? ⟨M, 3, none⟩ = false := (by simp [World.frozen?, unhide HX5])
                   skip)
                | fail)
              have HB6 : Hid (Below N w W5) := (unhide HI).2.2.trans ((unhide HB5).mono (unhide HNM))
              have HM5 : Hid (M < W5.heap.size) := (Array.getElem?_eq_some_iff.1 (unhide HX5)).1
              clear HE5 HX4 HB4 HS4
              go_quiet (fail)
              go_wp2_with (first
                | (at_builtin; refine wpList_put _ rfl (.tmp 47) (.tmp 49) 25 rfl N 70 i0 (.agg #[.int .u8 0, .int .u32 0, .int .u64 0, .string ⟨#[]⟩]) 4 32 apUnd hi hz0 hz1 hz2 rfl (by decide) (.slice (some ⟨g, 0, none⟩) 0 c) 0 (flatP l) rfl ((own5 hown (unhide HB5) (unhide HMM) _).alloc _) ⟨_, 0, none⟩ 1 1 [.int .u8 (qk : Int), .int .u32 (qn : Int), .int .u64 (qs : Int), .string qb] rfl rfl (four_new _ _ _ _ _ _) (by simp [Value.oneCell']) (by simp only [maxLen]; omega) (by omega) (by simp; have := unhide HNM; have := unhide HM5; omega) ?_; intro v' w10 hown' hgrow hnew; clear hnew)
                | fail)
              have HY : Hid (Fits r (l ++ [⟨qk, qn, qs, qb⟩]) ∧ w10.ownsRow N 70 4 v' (l ++ [(⟨qk, qn, qs, qb⟩ : Pg)]).length (flatP (l ++ [⟨qk, qn, qs, qb⟩])) ∧ Below N w w10) := by
                refine ⟨hfits.snoc (by rw [← unhide HM]; exact hmr) (⟨qk, qn, qs, qb⟩ : Pg) (by show qb.size ≤ 996; omega) ⟨(unhide HQF).1, (unhide HQF).2, (unhide HQF).3⟩ (fun h0 => absurd h0 (by rw [hl0]; simp)), ?_, ?_⟩
                · rw [flat_snoc, List.length_append, ← unhide HM]
                  exact hown'
                · exact ((belowDN (unhide HB6) _).alloc (by simp; have := unhide HNM; have := unhide HM5; omega) _).grown hgrow (by simp; have := unhide HNM; have := unhide HM5; omega) (fun q e => (own_lt hown e).1)
              clear hown' hgrow
              go_wp2
              go_roundw
              case rel => exact ⟨k + 1, l ++ [(⟨qk, qn, qs, qb⟩ : Pg)], by omega, by go_num, unhide HY⟩
              case measure => simp [intOf]; omega
          · obtain ⟨jm, ln, HG, hixm, HLN⟩ : ∃ jm ln, Hid (g < M ∧ wr.cell? ⟨g, jm + 1, none⟩ = some (.int .u32 ((ln : Nat) : Int))) ∧ (∀ W : World, (Instr.indexAt 25 (.slice (some ⟨g, 0, none⟩) m c) (.int .i64 ((m : Int) - 1))).run Tryd.prog W = .ok (.pointer (some ⟨g, jm, none⟩)) W) ∧ Hid (∀ h : l.length - 1 < l.length, l[l.length - 1].num = ln) := by
              have hlm := unhide HM
              obtain ⟨g', c', he, _, _, hgl, hcs⟩ := own_pgs (unhide HI).2.1 (by omega)
              obtain rfl : g = g' := by
                have : (⟨g, 0, none⟩ : Addr) = ⟨g', 0, none⟩ := by simp at he; exact congrArg (fun x => (⟨x, 0, none⟩ : Addr)) he.1
                exact congrArg Addr.block this
              refine ⟨(m - 1) * 4, l[l.length - 1].num, ⟨by rw [unhide HMM]; exact hgl, ?_⟩, fun W => ?_, fun h => rfl⟩
              · have := hcs (l.length - 1) (by omega) 1 (by decide)
                rw [show (m - 1) * 4 + 1 = (l.length - 1) * 4 + 1 by omega, this]
                rfl
              · have := ixPages g 0 m c (m - 1) (by omega) W
                rw [Nat.zero_add] at this
                rw [← this, show ((m - 1 : Nat) : Int) = (m : Int) - 1 by omega]
            have d0 : decide ((0 : Int) < (m : Int)) = true := decide_eq_true (by omega)
            have d0n : decide (0 < m) = true := decide_eq_true (by omega)
            clear hblk hcsz htk
            by_cases hle : qn ≤ ln
            · have dl : decide ((qn : Int) ≤ (ln : Int)) = true := decide_eq_true (by omega)
              have dln : decide (qn ≤ ln) = true := decide_eq_true hle
              go_wp2_with (first
                | (refine wpList_alloc_row (by rfl) 70 (by rfl) (some 7) (by rfl) M (by exact (unhide HMM).symm) _ zeroPg ?_; intro W4 HX4 HB4 HS4; simp only [Act.put, List.setIfInBounds_toArray, List.set_cons_zero, List.set_cons_succ])
                | (refine wpList_store_hid (by rfl) 70 (.tmp 7) (.tmp 23) (by rfl) M #[.int .u8 (qk : Int), .int .u32 (qn : Int), .int .u64 (qs : Int), .string qb] (by rfl) (by rfl) 70 _ (unhide HX4) pgInfo rfl (page_one _ _ _ _) ?_; intro W5 HX5 HE5; simp only [Act.put]
                   have HB5 : Hid (Below M wr W5) := (by rw [unhide HE5]; exact belowRow (unhide HB4) (Nat.le_refl _) _)
                   have z0 : W5.cell? ⟨M, 0, none⟩ = some (.int .u8 (qk : Int)) := (by rw [cell_of_row W5 M 0 _ _ _ (unhide HX5)]; rfl)
                   have z1 : W5.cell? ⟨M, 1, none⟩ = some (.int .u32 (qn : Int)) := (by rw [cell_of_row W5 M 1 _ _ _ (unhide HX5)]; rfl)
                   have z2 : W5.cell? ⟨M, 2, none⟩ = some (.int .u64 (qs : Int)) := (by rw [cell_of_row W5 M 2 _ _ _ (unhide HX5)]; rfl)
                   have z3 : W5.cell? ⟨M, 3, none⟩ = some (.string qb) := (by rw [cell_of_row W5 M 3 _ _ _ (unhide HX5)]; rfl)
                   have zf : W5.frozen? ⟨M, 3, none⟩ = false := (by simp [World.frozen?, unhide HX5])
                   have zl : W5.cell? ⟨g, jm + 1, none⟩ = some (.int .u32 (ln : Int)) := ((unhide HB5).cell (p := ⟨g, jm + 1, none⟩) (unhide HG).1).trans (unhide HG).2)
                | fail)
              have HB6 : Hid (Below N w W5) := (unhide HI).2.2.trans ((unhide HB5).mono (unhide HNM))
              have HM5 : Hid (M < W5.heap.size) := (Array.getElem?_eq_some_iff.1 (unhide HX5)).1
              clear HE5 HX4 HB4 HS4
              go_quiet (fail)
              go_wp2
              go_roundw
              case rel => exact ⟨k + 1, l, by omega, by go_num, hfits, by rw [← unhide HM]; exact own5 hown (unhide HB5) (unhide HMM) _, belowDN (unhide HB6) _⟩
              case measure => simp [intOf]; omega
            · have dl : decide ((qn : Int) ≤ (ln : Int)) = false := decide_eq_false (by omega)
              have dln : decide (qn ≤ ln) = false := decide_eq_false hle
              by_cases hb : 996 < qb.size
              · have hbi : (996 : Int) < (qb.size : Int) := by omega
                obtain ⟨b6, hb6, hcut⟩ := cut996 qb hb
                go_wp2_with (first
                  | (refine wpList_alloc_row (by rfl) 70 (by rfl) (some 7) (by rfl) M (by exact (unhide HMM).symm) _ zeroPg ?_; intro W4 HX4 HB4 HS4; simp only [Act.put, List.setIfInBounds_toArray, List.set_cons_zero, List.set_cons_succ])
                  | (refine wpList_store_hid (by rfl) 70 (.tmp 7) (.tmp 23) (by rfl) M #[.int .u8 (qk : Int), .int .u32 (qn : Int), .int .u64 (qs : Int), .string qb] (by rfl) (by rfl) 70 _ (unhide HX4) pgInfo rfl (page_one _ _ _ _) ?_; intro W5 HX5 HE5; simp only [Act.put]
                     have HB5 : Hid (Below M wr W5) := (by rw [unhide HE5]; exact belowRow (unhide HB4) (Nat.le_refl _) _)
                     have z0 : W5.cell? ⟨M, 0, none⟩ = some (.int .u8 (qk : Int)) := (by rw [cell_of_row W5 M 0 _ _ _ (unhide HX5)]; rfl)
                     have z1 : W5.cell? ⟨M, 1, none⟩ = some (.int .u32 (qn : Int)) := (by rw [cell_of_row W5 M 1 _ _ _ (unhide HX5)]; rfl)
                     have z2 : W5.cell? ⟨M, 2, none⟩ = some (.int .u64 (qs : Int)) := (by rw [cell_of_row W5 M 2 _ _ _ (unhide HX5)]; rfl)
                     have z3 : W5.cell? ⟨M, 3, none⟩ = some (.string qb) := (by rw [cell_of_row W5 M 3 _ _ _ (unhide HX5)]; rfl)
                     have zf : W5.frozen? ⟨M, 3, none⟩ = false := (by simp [World.frozen?, unhide HX5])
                     have zl : W5.cell? ⟨g, jm + 1, none⟩ = some (.int .u32 (ln : Int)) := ((unhide HB5).cell (p := ⟨g, jm + 1, none⟩) (unhide HG).1).trans (unhide HG).2)
                  | fail)
                have HB6 : Hid (Below N w W5) := (unhide HI).2.2.trans ((unhide HB5).mono (unhide HNM))
                have HM5 : Hid (M < W5.heap.size) := (Array.getElem?_eq_some_iff.1 (unhide HX5)).1
                clear HE5 HX4 HB4 HS4
                go_quiet (fail)
                go_wp2_with (first
                  | (refine wpList_load_row (by rfl) 70 (.tmp 7) (by rfl) M (by rfl) 70 #[.int .u8 (qk : Int), .int .u32 (qn : Int), .int .u64 (qs : Int), .string b6] (0, 0) _ (D.heapCell_same (w := W5.drewN _) (unhide HX5) 3 (.string b6)) pgUnd rfl pgInfo ?_; simp only [Act.put, List.setIfInBounds_toArray, List.set_cons_zero, List.set_cons_succ])
                  | (at_builtin; refine wpList_put _ rfl (.tmp 47) (.tmp 49) 25 rfl N 70 i0 (.agg #[.int .u8 0, .int .u32 0, .int .u64 0, .string ⟨#[]⟩]) 4 32 apUnd hi hz0 hz1 hz2 rfl (by decide) (.slice (some ⟨g, 0, none⟩) m c) m (flatP l) rfl ((own6 hown (unhide HB5) (unhide HMM) _ _).alloc _) ⟨_, 0, none⟩ 1 1 [.int .u8 (qk : Int), .int .u32 (qn : Int), .int .u64 (qs : Int), .string b6] rfl rfl (four_new6 (W5.drewN _) _ _ _ _ _ _ _) (by simp [Value.oneCell']) (by simp only [maxLen]; omega) (by omega) (by simp; have := unhide HNM; have := unhide HM5; omega) ?_; intro v' w10 hown' hgrow hnew; clear hnew)
                  | fail)
                have HY : Hid (Fits r (l ++ [⟨qk, qn, qs, b6⟩]) ∧ w10.ownsRow N 70 4 v' (l ++ [(⟨qk, qn, qs, b6⟩ : Pg)]).length (flatP (l ++ [⟨qk, qn, qs, b6⟩])) ∧ Below N w w10) := by
                  refine ⟨hfits.snoc (by rw [← unhide HM]; exact hmr) (⟨qk, qn, qs, b6⟩ : Pg) (by show b6.size ≤ 996; omega) ⟨(unhide HQF).1, (unhide HQF).2, (unhide HQF).3⟩ (fun h0 => by rw [unhide HLN]; show ln < qn; omega), ?_, ?_⟩
                  · rw [flat_snoc, List.length_append, ← unhide HM]
                    exact hown'
                  · exact ((D.belowCell (belowDN (unhide HB6) _) (p := ⟨M, 3, none⟩) (unhide HNM) _).alloc (by simp; have := unhide HNM; have := unhide HM5; omega) _).grown hgrow (by simp; have := unhide HNM; have := unhide HM5; omega) (fun q e => (own_lt hown e).1)
                clear hown' hgrow
                go_wp2
                go_roundw
                case rel => exact ⟨k + 1, l ++ [(⟨qk, qn, qs, b6⟩ : Pg)], by omega, by go_num, unhide HY⟩
                case measure => simp [intOf]; omega
              · have hbi : ¬ (996 : Int) < (qb.size : Int) := by omega
                go_wp2_with (first
                  | (refine wpList_alloc_row (by rfl) 70 (by rfl) (some 7) (by rfl) M (by exact (unhide HMM).symm) _ zeroPg ?_; intro W4 HX4 HB4 HS4; simp only [Act.put, List.setIfInBounds_toArray, List.set_cons_zero, List.set_cons_succ])
                  | (refine wpList_store_hid (by rfl) 70 (.tmp 7) (.tmp 23) (by rfl) M #[.int .u8 (qk : Int), .int .u32 (qn : Int), .int .u64 (qs : Int), .string qb] (by rfl) (by rfl) 70 _ (unhide HX4) pgInfo rfl (page_one _ _ _ _) ?_; intro W5 HX5 HE5; simp only [Act.put]
                     have HB5 : Hid (Below M wr W5) := (by rw [unhide HE5]; exact belowRow (unhide HB4) (Nat.le_refl _) _)
                     have z0 : W5.cell? ⟨M, 0, none⟩ = some (.int .u8 (qk : Int)) := (by rw [cell_of_row W5 M 0 _ _ _ (unhide HX5)]; rfl)
                     have z1 : W5.cell? ⟨M, 1, none⟩ = some (.int .u32 (qn : Int)) := (by rw [cell_of_row W5 M 1 _ _ _ (unhide HX5)]; rfl)
                     have z2 : W5.cell? ⟨M, 2, none⟩ = some (.int .u64 (qs : Int)) := (by rw [cell_of_row W5 M 2 _ _ _ (unhide HX5)]; rfl)
                     have z3 : W5.cell? ⟨M, 3, none⟩ = some (.string qb) := (by rw [cell_of_row W5 M 3 _ _ _ (unhide HX5)]; rfl)
                     have zf : W5.frozen? ⟨M, 3, none⟩ = false := (by simp [World.frozen?, unhide HX5])
                     have zl : W5.cell? ⟨g, jm + 1, none⟩ = some (.int .u32 (ln : Int)) := ((unhide HB5).cell (p := ⟨g, jm + 1, none⟩) (unhide HG).1).trans (unhide HG).2)
                  | fail)
                have HB6 : Hid (Below N w W5) := (unhide HI).2.2.trans ((unhide HB5).mono (unhide HNM))
                have HM5 : Hid (M < W5.heap.size) := (Array.getElem?_eq_some_iff.1 (unhide HX5)).1
                clear HE5 HX4 HB4 HS4
                go_quiet (fail)
                go_wp2_with (first
                  | (at_builtin; refine wpList_put _ rfl (.tmp 47) (.tmp 49) 25 rfl N 70 i0 (.agg #[.int .u8 0, .int .u32 0, .int .u64 0, .string ⟨#[]⟩]) 4 32 apUnd hi hz0 hz1 hz2 rfl (by decide) (.slice (some ⟨g, 0, none⟩) m c) m (flatP l) rfl ((own5 hown (unhide HB5) (unhide HMM) _).alloc _) ⟨_, 0, none⟩ 1 1 [.int .u8 (qk : Int), .int .u32 (qn : Int), .int .u64 (qs : Int), .string qb] rfl rfl (four_new _ _ _ _ _ _) (by simp [Value.oneCell']) (by simp only [maxLen]; omega) (by omega) (by simp; have := unhide HNM; have := unhide HM5; omega) ?_; intro v' w10 hown' hgrow hnew; clear hnew)
                  | fail)
                have HY : Hid (Fits r (l ++ [⟨qk, qn, qs, qb⟩]) ∧ w10.ownsRow N 70 4 v' (l ++ [(⟨qk, qn, qs, qb⟩ : Pg)]).length (flatP (l ++ [⟨qk, qn, qs, qb⟩])) ∧ Below N w w10) := by
                  refine ⟨hfits.snoc (by rw [← unhide HM]; exact hmr) (⟨qk, qn, qs, qb⟩ : Pg) (by show qb.size ≤ 996; omega) ⟨(unhide HQF).1, (unhide HQF).2, (unhide HQF).3⟩ (fun h0 => by rw [unhide HLN]; show ln < qn; omega), ?_, ?_⟩
                  · rw [flat_snoc, List.length_append, ← unhide HM]
                    exact hown'
                  · exact ((belowDN (unhide HB6) _).alloc (by simp; have := unhide HNM; have := unhide HM5; omega) _).grown hgrow (by simp; have := unhide HNM; have := unhide HM5; omega) (fun q e => (own_lt hown e).1)
                clear hown' hgrow
                go_wp2
                go_roundw
                case rel => exact ⟨k + 1, l ++ [(⟨qk, qn, qs, qb⟩ : Pg)], by omega, by go_num, unhide HY⟩
                case measure => simp [intOf]; omega
      · have hmi : ¬ (m : Int) < (r : Int) := by omega
        rcases hown.2 with ⟨rfl, hm0⟩ | ⟨g, c, cur, rfl, hg0, hblk, hmc, _, hcsz, htk⟩
        · have hmz : ¬ (0 : Int) < (r : Int) := by omega
          go_wp2
          go_ret
          exact ⟨l, _, rfl, hfits, (unhide HI).2.1, (unhide HI).2.2⟩
        · go_wp2
          go_ret
          exact ⟨l, _, rfl, hfits, (unhide HI).2.1, (unhide HI).2.2⟩
    · obtain rfl : k = n := by omega
      have hki : ¬ (k : Int) < (k : Int) := by omega
      go_wp2
      go_ret
      exact ⟨l, _, rfl, (unhide HI).1, (unhide HI).2.1, (unhide HI).2.2⟩
end Go.Proofs.YtfdfbjijomepgaaDoor
