/- The journal: what is wrong with a batch. -/
import Derived.Test.YtfdfbjijomepgaaDoorJa
import Derived.Test.YtfdfbjijomepgaaDoorPm
namespace Go.Proofs.YtfdfbjijomepgaaDoor
open Go.RowKit

theorem zeroPg : ((Tryd.prog.info? 70).bind (·.zero)).map (·.cells) = some #[.int .u8 0, .int .u32 0, .int .u64 0, .string ⟨#[]⟩] := by kernel_rfl
theorem pgUnd : Tryd.prog.underlying 70 = some (.struct (match Tryd.prog.underlying 70 with | some (.struct fs) => fs | _ => #[])) := by kernel_rfl
theorem pgInfo : (Tryd.prog.info? 70).map (·.size) = some 4 := by kernel_rfl
theorem Pgs.below {u u' : World} {ao : Option Addr} {l : List Pg} (h : Pgs u ao l) (hb : Below u.heap.size u u') : Pgs u' ao l := fun h0 => by
  obtain ⟨g, o, h1, h2⟩ := h h0
  refine ⟨g, o, h1, fun j hj k hk => ?_⟩
  have h3 := h2 j hj k hk
  have hs : k < (l[j].cs).size := hk
  rw [Array.getElem?_eq_getElem hs] at h3 ⊢
  rw [hb.cell (p := ⟨g, o + j * 4 + k, none⟩) (World.block_lt_of_cell? u _ h3)]
  exact h3
open Classical in
noncomputable def wrongB (s : Nat) (l : List Pg) (r : Int) : Int := if s = 0 ∨ 4611686018427387904 < s then 1 else if r < (l.length : Int) then 60 else if ¬ rises l then 1 else if ∃ p ∈ l, 996 < p.body.size then 82 else 0
open Classical in
set_option maxRecDepth 100000 in
set_option maxHeartbeats 1000000 in
theorem jWrong (s : Nat) (l : List Pg) (r : Int) (ao : Option Addr) (cap : Nat) (u : World) (h : Pgs u ao l) (hn : l.length ≤ 1000000000) : Calls Tryd.prog 29 #[.int .u64 (s : Int), .slice ao l.length cap, .int .i64 r] u fun e u' => e = .returned (.int .i64 (wrongB s l r)) ∧ Below u.heap.size u u' := by
  obtain ⟨n, hnn⟩ : ∃ n, n = l.length := ⟨_, rfl⟩
  obtain ⟨c, hc⟩ : ∃ c, c = wrongB s l r := ⟨_, rfl⟩
  have HRS := hide (jRising l ao cap u h hn)
  have hni : (n : Int) ≤ 1000000000 := by omega
  have HN := hide hnn
  have HC := hide hc
  have HP := hide h
  have HBR : Hid (Below u.heap.size u u) := Below.refl _ _
  rw [← hnn] at HRS ⊢
  rw [← hc]
  clear h hn hnn hc
  by_cases h0 : s = 0
  · subst h0
    obtain rfl : c = 1 := by rw [unhide HC, wrongB, if_pos (.inl rfl)]
    go_enter Tryd.func29, Tryd.ntmps29
    go_wp2
    go_ret
    exact ⟨rfl, unhide HBR⟩
  have h0i : ¬ (s : Int) = 0 := by omega
  by_cases h1 : 4611686018427387904 < s
  · obtain rfl : c = 1 := by rw [unhide HC, wrongB, if_pos (.inr h1)]
    have h1i : (4611686018427387904 : Int) < (s : Int) := by omega
    go_enter Tryd.func29, Tryd.ntmps29
    go_wp2
    go_ret
    exact ⟨rfl, unhide HBR⟩
  have h1i : ¬ (4611686018427387904 : Int) < (s : Int) := by omega
  by_cases h2 : r < (n : Int)
  · obtain rfl : c = 60 := by rw [unhide HC, wrongB, if_neg (fun h => h.elim h0 h1), if_pos (by rw [← unhide HN]; exact h2)]
    go_enter Tryd.func29, Tryd.ntmps29
    go_wp2
    go_ret
    exact ⟨rfl, unhide HBR⟩
  have HC2 : Hid (c = if ¬ rises l then 1 else if ∃ p ∈ l, 996 < p.body.size then 82 else 0) := by rw [unhide HC, wrongB, if_neg (fun h => h.elim h0 h1), if_neg (by rw [← unhide HN]; exact h2)]; rfl
  clear HC
  by_cases h3 : rises l
  · rw [decide_eq_true h3] at HRS
    have HC3 : Hid (c = if ∃ p ∈ l, 996 < p.body.size then 82 else 0) := by rw [unhide HC2, if_neg (fun h => h h3)]; rfl
    clear HC2 h3
    go_enter Tryd.func29, Tryd.ntmps29
    go_wp2_with fail
    refine (unhide HRS).mono ?_
    rintro e w1 ⟨rfl, z, rfl⟩
    have HB1 : Hid (Below u.heap.size u (u.drewN z)) := ⟨rfl, rfl, rfl, Nat.le_refl _, fun _ _ => rfl⟩
    clear HRS
    go_wp2
    go_loopw [27] (fun i wr => ∃ k : Nat, k ≤ n ∧ i = .int .i64 k ∧ Hid ((∀ j (hj : j < l.length), j < k → ¬ 996 < l[j].body.size) ∧ Below u.heap.size u wr)) (fun i _ => n - (intOf i).toNat)
    case atStart => exact ⟨0, Nat.zero_le _, rfl, fun j _ hj => absurd hj (Nat.not_lt_zero _), unhide HB1⟩
    case round =>
      obtain ⟨k, hk, rfl, HI⟩ := hrel
      by_cases hlt : k < n
      · have hki : (k : Int) < (n : Int) := by omega
        have hkl : k < l.length := by rw [← unhide HN]; exact hlt
        obtain ⟨g, o, hao, hcs⟩ := ((unhide HP).below (unhide HI).2) (by omega)
        subst hao
        have hix := ixPages g o n cap k hlt
        obtain ⟨C, hC⟩ : ∃ C, C = l[k].cs := ⟨_, rfl⟩
        have HR4 : Hid (wr.rangeAt g (o + k * 4) C.toList) := fun j v hv => by
          rw [hC] at hv
          have hj : j < 4 := (List.getElem?_eq_some_iff.1 hv).1
          rw [hcs k hkl j hj, ← Array.getElem?_toList]
          exact hv
        have HCI : Hid ((Tryd.prog.info? 70).map (·.size) = some C.toList.length ∧ (Tryd.prog.info? 70).map (·.size) = some C.size ∧ C.all (·.oneCell') = true ∧ 4 = C.size) := by rw [hC]; exact ⟨pgInfo, pgInfo, by simp [Pg.cs, Value.oneCell'], rfl⟩
        obtain ⟨S, hS⟩ : ∃ S, S = l[k].body := ⟨_, rfl⟩
        have HCB : Hid (C[3]? = some (.string S)) := by rw [hC, hS]; rfl
        have HSB := hide hS
        obtain ⟨N, hNn⟩ : ∃ N, N = wr.heap.size := ⟨_, rfl⟩
        have HNn := hide hNn
        clear hcs hC hS hNn
        by_cases hbig : 996 < S.size
        · have hbi : (996 : Int) < (S.size : Int) := by omega
          obtain rfl : c = 82 := by rw [unhide HC3, if_pos ⟨l[k], List.getElem_mem hkl, by rw [← unhide HSB]; exact hbig⟩]
          go_wp2_with (first
            | (refine wpList_load_mid (by rfl) 70 (.tmp 29) (by rfl) g (o + k * 4) (by rfl) C.toList _ (unhide HR4) pgUnd rfl (unhide HCI).1 ?_; simp only [Act.put, List.setIfInBounds_toArray, List.set_cons_zero, List.set_cons_succ, Array.toArray_toList])
            | (refine wpList_alloc_row (by rfl) 70 (by rfl) (some 8) (by rfl) N (by exact (unhide HNn).symm) _ zeroPg ?_; intro W1 HX1 HB1 HS1; simp only [Act.put, List.setIfInBounds_toArray, List.set_cons_zero, List.set_cons_succ])
            | (refine wpList_store_row (by rfl) 70 (.tmp 8) (.tmp 30) (by rfl) N C (by rfl) (by rfl) 70 _ (unhide HX1) (unhide HCI).2.1 (unhide HCI).2.2.2 (unhide HCI).2.2.1 ?_; simp only [Act.put]
               have HXC : Hid ((W1.setRow N C).heap[N]? = some (.cells C 70 (0, 0))) := heapRow_same (unhide HX1) _
               have HBC : Hid (Below u.heap.size u (W1.setRow N C)) := (by
                 have hb := unhide HB1
                 rw [unhide HNn] at hb
                 have hb2 := (unhide HI).2.trans (hb.mono (unhide HI).2.size)
                 exact ⟨hb2.os, hb2.tape, hb2.output, by simpa [World.setRow] using hb2.size, fun q hq => (heapRow_other W1 _ q _ (by have := (unhide HI).2.size; have := unhide HNn; omega)).trans (hb2.block q hq)⟩)
               obtain ⟨W2, hW2⟩ : ∃ z, z = W1.setRow N C := ⟨_, rfl⟩
               rw [← hW2] at HXC HBC ⊢
               clear hW2
               have hc3 : W2.cell? ⟨N, 3, none⟩ = some (.string S) := (by rw [cell_of_row W2 N 3 _ _ _ (unhide HXC)]; exact unhide HCB)))
          go_ret
          exact ⟨rfl, unhide HBC⟩
        · have hbi : ¬ (996 : Int) < (S.size : Int) := by omega
          have HX : Hid (∀ j (hj : j < l.length), j < k + 1 → ¬ 996 < l[j].body.size) := fun j hj hjk => by
            rcases Nat.lt_or_ge j k with h' | h'
            · exact (unhide HI).1 j hj h'
            · obtain rfl : j = k := by omega
              rw [← unhide HSB]; exact hbig
          go_wp2_with (first
            | (refine wpList_load_mid (by rfl) 70 (.tmp 29) (by rfl) g (o + k * 4) (by rfl) C.toList _ (unhide HR4) pgUnd rfl (unhide HCI).1 ?_; simp only [Act.put, List.setIfInBounds_toArray, List.set_cons_zero, List.set_cons_succ, Array.toArray_toList])
            | (refine wpList_alloc_row (by rfl) 70 (by rfl) (some 8) (by rfl) N (by exact (unhide HNn).symm) _ zeroPg ?_; intro W1 HX1 HB1 HS1; simp only [Act.put, List.setIfInBounds_toArray, List.set_cons_zero, List.set_cons_succ])
            | (refine wpList_store_row (by rfl) 70 (.tmp 8) (.tmp 30) (by rfl) N C (by rfl) (by rfl) 70 _ (unhide HX1) (unhide HCI).2.1 (unhide HCI).2.2.2 (unhide HCI).2.2.1 ?_; simp only [Act.put]
               have HXC : Hid ((W1.setRow N C).heap[N]? = some (.cells C 70 (0, 0))) := heapRow_same (unhide HX1) _
               have HBC : Hid (Below u.heap.size u (W1.setRow N C)) := (by
                 have hb := unhide HB1
                 rw [unhide HNn] at hb
                 have hb2 := (unhide HI).2.trans (hb.mono (unhide HI).2.size)
                 exact ⟨hb2.os, hb2.tape, hb2.output, by simpa [World.setRow] using hb2.size, fun q hq => (heapRow_other W1 _ q _ (by have := (unhide HI).2.size; have := unhide HNn; omega)).trans (hb2.block q hq)⟩)
               obtain ⟨W2, hW2⟩ : ∃ z, z = W1.setRow N C := ⟨_, rfl⟩
               rw [← hW2] at HXC HBC ⊢
               clear hW2
               have hc3 : W2.cell? ⟨N, 3, none⟩ = some (.string S) := (by rw [cell_of_row W2 N 3 _ _ _ (unhide HXC)]; exact unhide HCB)))
          go_roundw
          case rel => exact ⟨k + 1, by omega, by go_num, unhide HX, unhide HBC⟩
          case measure => simp [intOf]; omega
      · have hkk : k = n := by omega
        subst hkk
        obtain rfl : c = 0 := by
          rw [unhide HC3, if_neg]
          rintro ⟨p, hp, hb⟩
          obtain ⟨j, hj, rfl⟩ := List.getElem_of_mem hp
          exact (unhide HI).1 j hj (by rw [unhide HN]; exact hj) hb
        go_wp2
        go_ret
        exact ⟨rfl, (unhide HI).2⟩
  · rw [decide_eq_false h3] at HRS
    obtain rfl : c = 1 := by rw [unhide HC2, if_pos h3]
    clear HC2 h3
    go_enter Tryd.func29, Tryd.ntmps29
    go_wp2_with fail
    refine (unhide HRS).mono ?_
    rintro e w1 ⟨rfl, z, rfl⟩
    have HB1 : Hid (Below u.heap.size u (u.drewN z)) := ⟨rfl, rfl, rfl, Nat.le_refl _, fun _ _ => rfl⟩
    go_wp2
    go_ret
    exact ⟨rfl, unhide HB1⟩
end Go.Proofs.YtfdfbjijomepgaaDoor
