/- The disk's laws: lists of texts compared; a list of true ones. -/
import Derived.Test.YtfdibmbffmgikaaKu
namespace Go.Proofs.Ytfdibmbffmgikaa
open Go.RowKit Go.Lib

theorem ixTexts (g o n c i : Nat) (hi : i < n) (W : World) : (Instr.indexAt 36 (.slice (some ⟨g, o, none⟩) n c) (.int .i64 (i : Int))).run Try.prog W = .ok (.pointer (some ⟨g, o + i, none⟩)) W := by
  have he : Try.prog.elem 36 = 9 := by kernel_rfl
  rw [run_indexAt_slice W 36 _ _ _ _ _ (by rw [he]; kernel_rfl), if_pos ⟨by omega, by omega⟩, he, size_of (n := 1) (by kernel_rfl)]
  simp only [Result.andThen_ok, Int.toNat_natCast, Addr.add_mid, Nat.mul_one]
set_option maxRecDepth 100000 in
set_option maxHeartbeats 2000000 in
theorem lSame (ls : List ByteArray) (ao ao2 : Option Addr) (cap cap2 : Nat) (u : World) (h1 : Ts u ao ls) (h2 : Ts u ao2 ls) (hn : ls.length ≤ 9223372036854775807) :
    Calls Try.prog 26 #[.slice ao ls.length cap, .slice ao2 ls.length cap2] u fun e u' => e = .returned (.bool true) ∧ UpS u u' [] := by
  obtain ⟨n, hnn⟩ : ∃ n, n = ls.length := ⟨_, rfl⟩
  have HN := hide hnn
  have H1 := hide h1
  have H2 := hide h2
  have hni : (n : Int) ≤ 9223372036854775807 := by omega
  rw [← hnn]
  clear hnn h1 h2 hn
  go_enter Try.func26, Try.ntmps26
  go_wp2
  go_loopw [5] (fun i wr => ∃ k : Nat, k ≤ n ∧ i = .int .i64 k ∧ Hid (UpS u wr [])) (fun i _ => n - (intOf i).toNat)
  case atStart => exact ⟨0, Nat.zero_le _, rfl, UpS.refl _ _⟩
  case round =>
    obtain ⟨k, hk, rfl, HI⟩ := hrel
    by_cases hlt : k < n
    · have hki : (k : Int) < (n : Int) := by omega
      have hkl : k < ls.length := by rw [← unhide HN]; exact hlt
      obtain ⟨g, o, hao, c1⟩ := unhide H1 (by omega)
      obtain ⟨g2, o2, hao2, c2⟩ := unhide H2 (by omega)
      subst hao hao2
      have e1 := (unhide HI).cell (p := ⟨g, o + k, none⟩) (World.block_lt_of_cell? u _ (c1 k hkl)) (by simp)
      rw [c1 k hkl] at e1
      have e2 := (unhide HI).cell (p := ⟨g2, o2 + k, none⟩) (World.block_lt_of_cell? u _ (c2 k hkl)) (by simp)
      rw [c2 k hkl] at e2
      have hix := ixTexts g o n cap k hlt
      have hix2 := ixTexts g2 o2 n cap2 k hlt
      generalize ls[k] = S at *
      generalize o + k = j1 at *
      generalize o2 + k = j2 at *
      clear c1 c2
      have HS0 : Hid (wr.drew.cell? ⟨g, j1, none⟩ = some (.string S) ∧ wr.drew.cell? ⟨g2, j2, none⟩ = some (.string S) ∧ UpS u wr.drew []) := ⟨e1, e2, (unhide HI).drew⟩
      clear e1 e2 HI
      go_wp2_with fail
      refine wp_region_last (fun u' => u'.cell? ⟨g, j1, none⟩ = some (.string S) ∧ u'.cell? ⟨g2, j2, none⟩ = some (.string S) ∧ UpS u u' []) 8 (by kernel_rfl) (unhide HS0) fun hS => ?_
      · refine wpAnyL_take 0 17 (.slice (some ⟨g, o, none⟩) n cap) [2, 3] rfl rfl (by kernel_rfl) (by kernel_rfl) (by kernel_rfl) (by kernel_rfl) (by kernel_rfl) (fun _ _ _ h => h) (by rfl) (fun u _ => by go_simp) hS ?_
        simp only [Act.put, List.setIfInBounds_toArray, List.set_cons_zero, List.set_cons_succ]
        refine wpAnyL_take 1 18 (.int .i64 (k : Int)) [2, 3] rfl rfl (by kernel_rfl) (by kernel_rfl) (by kernel_rfl) (by kernel_rfl) (by kernel_rfl) (fun _ _ _ h => h) (by rfl) (fun u _ => by go_simp) hS ?_
        simp only [Act.put, List.setIfInBounds_toArray, List.set_cons_zero, List.set_cons_succ]
        refine wpAnyL_take 2 19 (.pointer (some ⟨g, j1, none⟩)) [3] rfl rfl (by kernel_rfl) (by kernel_rfl) (by kernel_rfl) (by kernel_rfl) (by kernel_rfl) (fun _ _ _ h => h) (by rfl) (fun u _ => by go_simp) hS ?_
        simp only [Act.put, List.setIfInBounds_toArray, List.set_cons_zero, List.set_cons_succ]
        refine wpAnyL_take 3 20 (.string S) [] rfl rfl (by kernel_rfl) (by kernel_rfl) (by kernel_rfl) (by kernel_rfl) (by kernel_rfl) (fun _ _ _ h => h) (by rfl) (fun u hu => by obtain ⟨s1, s2, s3⟩ := hu; go_simp) hS ?_
        simp only [Act.put, List.setIfInBounds_toArray, List.set_cons_zero, List.set_cons_succ]
        refine wpAnyL_take 4 21 (.slice (some ⟨g2, o2, none⟩) n cap2) [6, 7] rfl rfl (by kernel_rfl) (by kernel_rfl) (by kernel_rfl) (by kernel_rfl) (by kernel_rfl) (fun _ _ _ h => h) (by rfl) (fun u _ => by go_simp) hS ?_
        simp only [Act.put, List.setIfInBounds_toArray, List.set_cons_zero, List.set_cons_succ]
        refine wpAnyL_take 5 22 (.int .i64 (k : Int)) [6, 7] rfl rfl (by kernel_rfl) (by kernel_rfl) (by kernel_rfl) (by kernel_rfl) (by kernel_rfl) (fun _ _ _ h => h) (by rfl) (fun u _ => by go_simp) hS ?_
        simp only [Act.put, List.setIfInBounds_toArray, List.set_cons_zero, List.set_cons_succ]
        refine wpAnyL_take 6 23 (.pointer (some ⟨g2, j2, none⟩)) [7] rfl rfl (by kernel_rfl) (by kernel_rfl) (by kernel_rfl) (by kernel_rfl) (by kernel_rfl) (fun _ _ _ h => h) (by rfl) (fun u _ => by go_simp) hS ?_
        simp only [Act.put, List.setIfInBounds_toArray, List.set_cons_zero, List.set_cons_succ]
        refine wpAnyL_take 7 24 (.string S) [] rfl rfl (by kernel_rfl) (by kernel_rfl) (by kernel_rfl) (by kernel_rfl) (by kernel_rfl) (fun _ _ _ h => h) (by rfl) (fun u hu => by obtain ⟨s1, s2, s3⟩ := hu; go_simp) hS ?_
        simp only [Act.put, List.setIfInBounds_toArray, List.set_cons_zero, List.set_cons_succ]
        refine wpAnyL_one (i := 8) (by kernel_rfl) rfl (by rfl) fun K hK => ?_
        refine wp_val (.bool false) (by go_simp) (some 25) (by rfl) ?_
        refine hK _ _ (fun h => absurd rfl h) ?_
        clear hK K
        simp only [Act.put, List.setIfInBounds_toArray, List.set_cons_zero, List.set_cons_succ]
        refine wpAnyL_done (by kernel_rfl) ?_ _
        have HNX := hide hS.2.2
        clear hS HS0
        go_wp2
        go_roundw
        case rel => exact ⟨k + 1, by omega, by go_num, HNX⟩
        case measure => simp [intOf]; omega
    · have hkk : k = n := by omega
      subst hkk
      go_wp2
      go_ret
      exact ⟨rfl, unhide HI⟩
theorem infoBo : (Try.prog.info? 4).map (fun i => (i.zero, i.size, i.bytes)) = some (some (.bool false), 1, 1) := by kernel_rfl
set_option maxRecDepth 100000 in
set_option maxHeartbeats 1000000 in
theorem lYes (n : Nat) (hn : n ≤ 2000000) (u : World) : Calls Try.prog 31 #[.int .i64 (n : Int)] u fun e u' => ∃ v, e = .returned v ∧ u'.ownsRow u.heap.size 4 1 v n (List.replicate n (.bool true)) ∧ UpS u u' [] := by
  obtain ⟨i0, hi, hz0, hz1, hz2⟩ := info_parts infoBo
  have hni : (n : Int) ≤ 2000000 := by omega
  go_enter Try.func31, Try.ntmps31
  go_wp2
  go_loopw [3, 4] (fun v i wr => ∃ k : Nat, k ≤ n ∧ i = .int .i64 k ∧ Hid (wr.ownsRow u.heap.size 4 1 v k (List.replicate k (.bool true)) ∧ UpS u wr [])) (fun _ i _ => n - (intOf i).toNat)
  case atStart => exact ⟨0, Nat.zero_le _, rfl, World.ownsRow_nil _ _ _ _, UpS.refl _ _⟩
  case round =>
    rename_i v _ _
    obtain ⟨k, hk, rfl, HI⟩ := hrel
    by_cases hlt : k < n
    · have hki : (k : Int) < (n : Int) := by omega
      obtain ⟨ho, hu⟩ := unhide HI
      obtain ⟨ao, c, rfl⟩ := ownsRow_len ho
      have hown : (wr.alloc (.cells #[.bool true] 4)).ownsRow u.heap.size 4 1 (.slice ao k c) k (List.replicate k (.bool true)) := ownsRow_keep ho fun q hq => Deep.blk_alloc_lt wr _ q (ho.lt q hq).2
      obtain ⟨v', w5, hrun, hown', hgrow, hnew⟩ := run_append_own' (P := Try.prog) (wr.alloc (.cells #[.bool true] 4)) u.heap.size 25 25 4 i0 (.bool false) 1 1 Try.underlying25 hi hz0 hz1 hz2 rfl (by decide) (.slice ao k c) k (List.replicate k (.bool true)) hown ⟨wr.heap.size, 0, none⟩ 1 1 [.bool true] rfl (fun j y hy => by
        rw [Addr.add_mid, Nat.zero_add, cell_of_row _ wr.heap.size j _ _ _ (heap_alloc_new wr _)]
        simpa using hy) (fun y hy => by rw [List.mem_singleton.1 hy]; rfl) (by simp only [maxLen]; omega) (by omega) (by have := hu.size; simp; omega)
      have HNX : Hid (w5.ownsRow u.heap.size 4 1 v' (k + 1) (List.replicate (k + 1) (.bool true)) ∧ UpS u w5 []) := ⟨by rw [List.replicate_succ']; exact hown', (hu.alloc _).trans (UpS.ofGrown (F := (Value.slice ao k c).ownBlock.toList) hgrow (fun q hq => .inl (by simp [hq]))) (fun x hx => .inr (ho.lt x (mem_toList hx)).1)⟩
      obtain ⟨ao', c', rfl⟩ := ownsRow_len hown'
      clear hown hown' hgrow hnew ho hu HI
      go_wp2_with (at_builtin; refine append_to (by rfl) (.tmp 10) (.tmp 11) 25 25 (by rfl) (some 12) (by rfl) 25 (by rfl) _ _ (by rfl) (by rfl) _ _ hrun ?_; simp only [Act.put, List.setIfInBounds_toArray, List.set_cons_zero, List.set_cons_succ])
      go_roundw
      case rel => exact ⟨k + 1, by omega, by go_num, HNX⟩
      case measure => simp [intOf]; omega
    · have hkk : k = n := by omega
      subst hkk
      go_wp2
      go_ret
      exact ⟨_, rfl, (unhide HI).1, (unhide HI).2⟩
theorem yesKs {u : World} {B : Nat} {v : Value} {n : Nat} (h : u.ownsRow B 4 1 v n (List.replicate n (.bool true))) (F : List Nat) (hF : ∀ k ∈ F, k < B) : ∃ ao c, v = .slice ao n c ∧ Ks u ao (List.replicate n true) F := by
  rcases h.2 with ⟨h1, h2⟩ | ⟨g, cap, cur, hv, h1, h2, h3, h4, h5, h6⟩
  · exact ⟨none, 0, by rw [h1, h2], fun h0 => by rw [h2] at h0; exact absurd h0 (by simp)⟩
  · refine ⟨_, _, hv, fun h0 => ⟨g, 0, rfl, fun hx => by have := hF g hx; omega, fun j hj => ?_⟩⟩
    rw [List.length_replicate] at hj
    rw [Nat.zero_add, cell_of_row u g j _ _ _ h2, List.getElem_replicate]
    have : (List.replicate n (Value.bool true))[j]? = some (.bool true) := by simp [hj]
    rw [← h6, List.getElem?_take_of_lt (by omega), Array.getElem?_toList] at this
    exact this
end Go.Proofs.Ytfdibmbffmgikaa
