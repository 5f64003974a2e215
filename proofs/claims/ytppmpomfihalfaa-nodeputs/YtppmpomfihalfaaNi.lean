/- Nodes: a branch's body; Encode. -/
import Derived.Test.YtppmpomfihalfaaNh
namespace Go.Proofs.Ytppmpomfihalfaa
open Go.RowKit

theorem keysB_take : ∀ (ks : List ByteArray) (gs : List Nat) (k : Nat) (hk : k < ks.length) (hg : k < gs.length), keysB (ks.take (k + 1)) gs = keysB (ks.take k) gs ++ keyB ks[k] gs[k]
  | [], _, _, hk, _ => by simp at hk
  | _ :: _, [], _, _, hg => by simp at hg
  | q :: ks, g :: gs, 0, _, _ => by simp [keysB]
  | q :: ks, g :: gs, k + 1, hk, hg => by
    have := keysB_take ks gs k (by simpa using hk) (by simpa using hg)
    simp only [keysB, List.take_succ_cons, List.zipWith_cons_cons, List.flatten_cons, List.getElem_cons_succ, List.append_assoc] at this ⊢
    rw [this]
theorem keysB_le {ks : List ByteArray} {gs : List Nat} (h : ∀ k ∈ ks, keyOk k) (k : Nat) (hk : k ≤ gs.length) : (keysB (ks.take k) gs).length ≤ 644 * k := by
  rw [keysB_len _ _ (fun c hc => h c (List.mem_of_mem_take hc)) (by rw [List.length_take]; omega)]
  have h1 := sum_le_mul ((ks.take k).map ksz) 644 (fun x hx => by
    obtain ⟨c, hc, rfl⟩ := List.mem_map.1 hx
    have h1 := tsz_le (s := c) (h c (List.mem_of_mem_take hc)).2
    unfold ksz; omega)
  rw [List.length_map, List.length_take] at h1
  have := Nat.mul_le_mul_left 644 (Nat.min_le_left k ks.length)
  omega
set_option maxRecDepth 100000 in
set_option maxHeartbeats 4000000 in
theorem nPutBranch (n : Nd) (a : Nv) (u w : World) (h : NdAt u n a) (hs : n.Small) (hc : n.keys.length ≤ 1992) (hgk : n.kids.length = n.keys.length + 1) (A R X : Nat) (o0 : Obj) (hw : Wn u w u.heap.size A R X o0 []) :
    Calls Try.prog 68 #[.pointer (some ⟨A, 0, none⟩), a.v n] w fun e w' => e = .returned (.tuple #[]) ∧ ∃ R', Wn u w' u.heap.size A R' X o0 ([2] ++ W.fixB n.keys.length 2 ++ W.fixB (n.kids.getD 0 0) 4 ++ keysB n.keys n.kids.tail) := by
  obtain ⟨B, hB⟩ : ∃ B, B = u.heap.size := ⟨_, rfl⟩
  have HB := hide hB
  rw [← hB] at hw ⊢
  obtain ⟨N, hN⟩ : ∃ N, N = w.heap.size := ⟨_, rfl⟩
  have HN := hide hN
  have HW := hide hw
  have HKY := hide h.keys
  have HKD := hide h.kids
  have HK4 := hide h.kid
  have HS := hide hs.2
  obtain ⟨ca, cc, ka, kc, ga, gc⟩ := a
  obtain ⟨lf, cs, ks, gs⟩ := n
  replace HKY : Hid (Lies u ka (flatK ks)) := unhide HKY
  replace HKD : Hid (Lies u ga (flatG gs)) := unhide HKD
  replace HK4 : Hid (∀ k ∈ gs, k < 4294967296) := unhide HK4
  replace HS : Hid (∀ c ∈ ks, keyOk c) := unhide HS
  replace hc : ks.length ≤ 1992 := hc
  replace hgk : gs.length = ks.length + 1 := hgk
  show Calls Try.prog 68 #[.pointer (some ⟨A, 0, none⟩), .agg #[.bool lf, .slice ca cs.length cc, .slice ka ks.length kc, .slice ga gs.length gc]] w fun e w' => e = .returned (.tuple #[]) ∧ ∃ R', Wn u w' B A R' X o0 ([2] ++ W.fixB ks.length 2 ++ W.fixB (gs.getD 0 0) 4 ++ keysB ks gs.tail)
  obtain ⟨kn, hkn⟩ : ∃ kn, kn = ks.length := ⟨_, rfl⟩
  have HKN := hide hkn
  rw [← hkn] at hc hgk ⊢
  have HGN := hide hgk
  rw [hgk]
  obtain ⟨gn, hgn⟩ : ∃ gn, gn = kn + 1 := ⟨_, rfl⟩
  rw [← hgn]
  have hki0 : (kn : Int) ≤ 1992 := by omega
  generalize cs.length = cn
  obtain ⟨F, hF⟩ : ∃ F, F = [2] ++ W.fixB kn 2 ++ W.fixB (gs.getD 0 0) 4 ++ keysB ks gs.tail := ⟨_, rfl⟩
  rw [← hF]
  have HF := hide hF
  clear h hs hw hB hN hkn hF hgk
  have hkw : IntKind.u64.wrap (kn : Int) = (kn : Int) := by rw [IntKind.wrap_u64]; omega
  obtain ⟨g, o, hao, hg0⟩ := (unhide HKD).kd (i := 0) (by rw [unhide HGN]; omega)
  subst hao
  have HG0 : Hid (∀ wr, Below B u wr → wr.cell? ⟨g, o, none⟩ = some (.int .u32 (gs.getD 0 0 : Nat))) := fun wr hb => by
    have e : gs.getD 0 0 = gs[0]'(by rw [unhide HGN]; omega) := by rw [List.getD_eq_getElem?_getD, List.getElem?_eq_getElem (by rw [unhide HGN]; omega)]; rfl
    rw [e]
    exact (hb.cell (p := ⟨g, o, none⟩) (by rw [unhide HB]; exact World.block_lt_of_cell? u _ hg0)).trans hg0
  have hx0 : gs.getD 0 0 < 4294967296 := by
    rw [List.getD_eq_getElem?_getD]
    cases hq : gs[0]? with
    | none => decide
    | some x => exact unhide HK4 x (List.mem_of_getElem? hq)
  clear hg0
  generalize gs.getD 0 0 = x0 at *
  have hx0w : IntKind.u64.wrap (x0 : Int) = (x0 : Int) := by rw [IntKind.wrap_u64]; omega
  have hix0 : ∀ W : World, (Instr.indexAt 24 (.slice (some ⟨g, o, none⟩) gn gc) (.int .i64 0)).run Try.prog W = .ok (.pointer (some ⟨g, o, none⟩)) W := fun W => ixKids g o gn gc 0 (by omega) W
  go_enter Try.func68, Try.ntmps68
  go_wp2_with (first
    | (with_reducible refine wpList_box_node (by rfl) (.tmp 1) (by rfl) (some 3) (by rfl) N (unhide HN) lf ca cn cc ka kn kc (some ⟨g, o, none⟩) gn gc (by with_unfolding_all rfl) ?_; intro W1 HX1 HW1 HS1; simp only [Act.put, List.setIfInBounds_toArray, List.set_cons_zero, List.set_cons_succ])
    | fail)
  have HV1 : Hid (Wn u W1 B A R N (.cells #[.bool lf, .slice ca cn cc, .slice ka kn kc, .slice (some ⟨g, o, none⟩) gn gc] 26 (0, 0)) [] ∧ Wn u W1 B A R X o0 []) := by
    have h1 := (unhide HW).new (by rw [← unhide HN]; exact unhide HW1)
    exact ⟨h1.box2 (unhide HX1) (by have := (unhide HW).wr.1; rw [← unhide HN] at this; omega) (by have := (unhide HW).wr.2.1; rw [← unhide HN] at this; omega), h1⟩
  clear HX1 HW1 HS1 HW
  refine (W.wByte A R [] 2 W1 (unhide HV1).1.wr (by decide) (by decide) (by decide)).mono ?_
  rintro e W2 ⟨rfl, R2, hp2⟩
  have HV2 := hide (And.intro ((unhide HV1).1.put hp2) ((unhide HV1).2.put hp2))
  clear hp2 HV1
  obtain ⟨y0, y1, y2, y3⟩ := box4 (unhide HV2).1.box
  go_wp2_with fail
  refine (W.wFixed A R2 _ kn 2 W2 (unhide HV2).1.wr (by decide) (by decide) (by show kn < 65536; omega) (by decide)).mono ?_
  rintro e W3 ⟨rfl, R3, hp3⟩
  have HV3 := hide (And.intro ((unhide HV2).1.put hp3) ((unhide HV2).2.put hp3))
  clear hp3 HV2 y0 y1 y2 y3
  obtain ⟨y0, y1, y2, y3⟩ := box4 (unhide HV3).1.box
  have hg0 := unhide HG0 W3 (unhide HV3).1.bel
  go_wp2_with fail
  refine (W.wFixed A R3 _ x0 4 W3 (unhide HV3).1.wr (by decide) (by decide) (by show x0 < 4294967296; omega) (by simp only [List.length_append, W.fixB_length]; decide)).mono ?_
  rintro e W4 ⟨rfl, R4, hp4⟩
  have HV4 := hide (And.intro ((unhide HV3).1.put hp4) ((unhide HV3).2.put hp4))
  clear hp4 HV3 y0 y1 y2 y3 hg0
  obtain ⟨y0, y1, y2, y3⟩ := box4 (unhide HV4).1.box
  go_wp2_with fail
  go_loopw [24] (fun i wr => ∃ (k R : Nat), k ≤ kn ∧ i = .int .i64 k ∧ Hid (Wn u wr B A R N (.cells #[.bool lf, .slice ca cn cc, .slice ka kn kc, .slice (some ⟨g, o, none⟩) gn gc] 26 (0, 0)) ([2] ++ W.fixB kn 2 ++ W.fixB x0 4 ++ keysB (ks.take k) gs.tail) ∧ Wn u wr B A R X o0 ([2] ++ W.fixB kn 2 ++ W.fixB x0 4 ++ keysB (ks.take k) gs.tail))) (fun i _ => kn - (intOf i).toNat)
  case atStart => exact ⟨0, R4, Nat.zero_le _, rfl, by rw [show [2] ++ W.fixB kn 2 ++ W.fixB x0 4 ++ keysB (ks.take 0) gs.tail = [] ++ [UInt8.ofNat (Int.toNat 2)] ++ W.fixB kn (Int.toNat 2) ++ W.fixB x0 (Int.toNat 4) from by simp [keysB]]; exact unhide HV4⟩
  case round =>
    clear HV4 y0 y1 y2 y3
    obtain ⟨k, R5, hk, rfl, HI⟩ := hrel
    by_cases hlt : k < kn
    · have hki : (k : Int) < (kn : Int) := by omega
      have hkl : k < ks.length := by rw [← unhide HKN]; exact hlt
      have hgl : k + 1 < gs.length := by rw [unhide HGN]; omega
      have hbw : Below u.heap.size u wr := by rw [← unhide HB]; exact (unhide HI).1.bel
      obtain ⟨g1, o1, hao, hc1⟩ := ((unhide HKY).below hbw).ky hkl
      subst hao
      have hix := ixStrs g1 o1 kn kc k hlt
      have hix2 : ∀ W : World, (Instr.indexAt 24 (.slice (some ⟨g, o, none⟩) gn gc) (.int .i64 ((k : Int) + 1))).run Try.prog W = .ok (.pointer (some ⟨g, o + (k + 1), none⟩)) W := fun W => ixKids g o gn gc (k + 1) (by omega) W
      have HKC : Hid (∀ w2, Below u.heap.size u w2 → w2.cell? ⟨g, o + (k + 1), none⟩ = some (.int .u32 (gs[k + 1] : Nat))) := fun w2 hb => by
        obtain ⟨g2, o2, e, h2⟩ := ((unhide HKD).below hb).kd hgl
        simp only [Option.some.injEq, Addr.mk.injEq] at e
        obtain ⟨rfl, rfl, _⟩ := e
        exact h2
      have hok := unhide HS _ (List.getElem_mem hkl)
      have hx4 := unhide HK4 _ (List.getElem_mem hgl)
      have HT := hide (keysB_take ks gs.tail k hkl (by rw [List.length_tail]; omega))
      rw [List.getElem_tail] at HT
      have HL := hide (keysB_le (gs := gs.tail) (unhide HS) k (by rw [List.length_tail]; omega))
      clear hbw
      generalize ks[k] = q at *
      generalize gs[k + 1] = x at *
      clear hkl hgl
      have hq : q.size ≤ 320 := hok.2
      clear hok
      have hxw : IntKind.u64.wrap (x : Int) = (x : Int) := by rw [IntKind.wrap_u64]; omega
      obtain ⟨bs, hbs⟩ : ∃ bs, bs = [2] ++ W.fixB kn 2 ++ W.fixB x0 4 ++ keysB (ks.take k) gs.tail := ⟨_, rfl⟩
      rw [← hbs] at HI
      have hbl : bs.length ≤ 7 + 644 * 1992 := by
        rw [hbs, List.length_append, List.length_append, List.length_append, W.fixB_length, W.fixB_length]
        have := unhide HL
        have : 644 * k ≤ 644 * 1992 := Nat.mul_le_mul_left 644 (by omega)
        simp only [List.length_singleton]
        omega
      have hbs2 : [2] ++ W.fixB kn 2 ++ W.fixB x0 4 ++ keysB (ks.take (k + 1)) gs.tail = bs ++ (W.uintB 9 q.size ++ q.data.toList) ++ W.fixB x (Int.toNat 4) := by
        rw [unhide HT, hbs]
        simp only [keyB, textB, List.append_assoc]
        rfl
      have HBS := hide hbs2
      clear hbs2 hbs HT HL
      go_wp2_with fail
      refine (W.wText A R5 bs q wr (unhide HI).1.wr (by omega)).mono ?_
      rintro e W6 ⟨rfl, R6, hp6⟩
      have HV6 := hide (And.intro ((unhide HI).1.put hp6) ((unhide HI).2.put hp6))
      clear hp6 HI hc1
      obtain ⟨y0, y1, y2, y3⟩ := box4 (unhide HV6).1.box
      have hc2 := unhide HKC W6 (by rw [← unhide HB]; exact (unhide HV6).1.bel)
      go_wp2_with fail
      refine (W.wFixed A R6 _ x 4 W6 (unhide HV6).1.wr (by decide) (by decide) (by show x < 4294967296; omega) (by rw [List.length_append, List.length_append, show q.data.toList.length = q.size from Array.length_toList]; have := (W.uintB_length 9 q.size).2; omega)).mono ?_
      rintro e W7 ⟨rfl, R7, hp7⟩
      have HV7 := hide (And.intro ((unhide HV6).1.put hp7) ((unhide HV6).2.put hp7))
      clear hp7 HV6 hc2 y0 y1 y2 y3
      go_wp2
      go_roundw
      case rel => exact ⟨k + 1, R7, by omega, by go_num, by rw [unhide HBS]; exact unhide HV7⟩
      case measure => simp [intOf]; omega
    · obtain rfl : k = kn := by omega
      have hki : ¬ (k : Int) < (k : Int) := by omega
      have HE : Hid (Wn u wr B A R5 X o0 F) := by
        have := (unhide HI).2
        rw [unhide HF]
        rwa [List.take_of_length_le (by rw [unhide HKN]; exact Nat.le_refl _)] at this
      go_wp2
      go_returns
      exact ⟨rfl, R5, unhide HE⟩
end Go.Proofs.Ytppmpomfihalfaa
