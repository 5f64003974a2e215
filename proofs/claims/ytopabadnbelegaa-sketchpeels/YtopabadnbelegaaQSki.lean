/- Sketches: Index, Contains of three places; zero; the first pure cell. -/
import Derived.Test.YtopabadnbelegaaQ02
import Derived.Test.YtopabadnbelegaaQSgm
namespace Go.Proofs.Ytopabadnbelegaa.K
open Go.RowKit Go.Lib
open Go.Proofs.Ytopabadnbelegaa.S (Rec)
/-- where a number stands among three -/
def ix3 (p q r v : Int) : Int := if v = p then 0 else if v = q then 1 else if v = r then 2 else -1
set_option maxHeartbeats 2000000 in
theorem kIndex (M : Nat) (p q r v : Int) (t : TypeId) (u : World) (h : u.heap[M]? = some (.cells #[.int .i64 p, .int .i64 q, .int .i64 r] t (0, 0))) : Calls Try.prog 54 #[.slice (some ⟨M, 0, none⟩) 3 3, .int .i64 v] u fun e u' => e = .returned (.int .i64 (ix3 p q r v)) ∧ u' = u := by
  obtain ⟨z0, z1, z2⟩ := S.box3 h
  obtain ⟨R, hR⟩ : ∃ R, R = ix3 p q r v := ⟨_, rfl⟩
  rw [← hR]
  have HR : Hid (R = if v = p then 0 else if v = q then 1 else if v = r then 2 else -1) := hR
  clear hR h
  go_enter Try.func54, Try.ntmps54
  go_wp2
  go_loopw [8] (fun s8 wr => ∃ i : Nat, i ≤ 3 ∧ s8 = .int .i64 (i : Int) ∧ Hid (wr = u) ∧ Hid ((0 < i → v ≠ p) ∧ (1 < i → v ≠ q) ∧ (2 < i → v ≠ r))) (fun s8 _ => 3 - (intOf s8).toNat)
  case atStart => exact ⟨0, by decide, rfl, rfl, fun h => absurd h (by decide), fun h => absurd h (by decide), fun h => absurd h (by decide)⟩
  case round =>
    obtain ⟨i, hi, rfl, HW, HE⟩ := hrel
    have hw := unhide HW
    subst hw
    rcases (by omega : i = 0 ∨ i = 1 ∨ i = 2 ∨ i = 3) with rfl | rfl | rfl | rfl
    · by_cases hv : v = p
      · go_wp2
        go_ret
        exact ⟨by rw [unhide HR, if_pos hv]; rfl, rfl⟩
      · have HV := hide hv
        go_wp2
        go_roundw
        case rel => exact ⟨1, by decide, rfl, trivial, fun _ => unhide HV, fun h => absurd h (by decide), fun h => absurd h (by decide)⟩
        case measure => simp [intOf]
    · have HP := hide ((unhide HE).1 (by decide))
      by_cases hv : v = q
      · go_wp2
        go_ret
        exact ⟨by rw [unhide HR, if_neg (unhide HP), if_pos hv]; rfl, rfl⟩
      · have HV := hide hv
        go_wp2
        go_roundw
        case rel => exact ⟨2, by decide, rfl, trivial, fun _ => unhide HP, fun _ => unhide HV, fun h => absurd h (by decide)⟩
        case measure => simp [intOf]
    · have HP := hide ((unhide HE).1 (by decide))
      have HQ := hide ((unhide HE).2.1 (by decide))
      by_cases hv : v = r
      · go_wp2
        go_ret
        exact ⟨by rw [unhide HR, if_neg (unhide HP), if_neg (unhide HQ), if_pos hv]; rfl, rfl⟩
      · have HV := hide hv
        go_wp2
        go_roundw
        case rel => exact ⟨3, by decide, rfl, trivial, fun _ => unhide HP, fun _ => unhide HQ, fun _ => unhide HV⟩
        case measure => simp [intOf]
    · have HP := hide ((unhide HE).1 (by decide))
      have HQ := hide ((unhide HE).2.1 (by decide))
      have HV := hide ((unhide HE).2.2 (by decide))
      have h3 : ¬ ((3 : Nat) : Int) < 3 := by decide
      go_wp2
      go_ret
      exact ⟨by rw [unhide HR, if_neg (unhide HP), if_neg (unhide HQ), if_neg (unhide HV)]; rfl, rfl⟩
theorem ix3_in (p q r v : Int) : decide (0 ≤ ix3 p q r v) = decide (v = p ∨ v = q ∨ v = r) := by
  unfold ix3
  by_cases h1 : v = p
  · rw [if_pos h1, decide_eq_true (Or.inl h1)]; rfl
  · rw [if_neg h1]
    by_cases h2 : v = q
    · rw [if_pos h2, decide_eq_true (Or.inr (Or.inl h2))]; rfl
    · rw [if_neg h2]
      by_cases h3 : v = r
      · rw [if_pos h3, decide_eq_true (Or.inr (Or.inr h3))]; rfl
      · rw [if_neg h3]
        have hn : ¬ (v = p ∨ v = q ∨ v = r) := by rintro (h | h | h) <;> contradiction
        exact (decide_eq_false hn).symm
set_option maxHeartbeats 2000000 in
theorem kContains (M : Nat) (p q r v : Int) (t : TypeId) (u : World) (h : u.heap[M]? = some (.cells #[.int .i64 p, .int .i64 q, .int .i64 r] t (0, 0))) : Calls Try.prog 41 #[.slice (some ⟨M, 0, none⟩) 3 3, .int .i64 v] u fun e u' => e = .returned (.bool (decide (v = p ∨ v = q ∨ v = r))) ∧ u' = u := by
  have HI := hide (kIndex M p q r v t u h)
  obtain ⟨b, hb⟩ : ∃ b, b = decide (v = p ∨ v = q ∨ v = r) := ⟨_, rfl⟩
  rw [← hb]
  have hb2 : decide (0 ≤ ix3 p q r v) = b := by rw [hb]; exact ix3_in p q r v
  clear h hb
  generalize ix3 p q r v = x at *
  go_enter Try.func41, Try.ntmps41
  go_wp2_with (first
    | (go_at_call 54; refine (unhide HI).mono ?_; rintro e wq ⟨rfl, hwq⟩; obtain rfl := hwq.symm; clear HI)
    | fail)
  go_ret
  exact ⟨by rw [← hb2]; rfl, rfl⟩
theorem Sk.cells {w : World} {a g cap : Nat} {l : List Ce} (h : Sk w a g cap l) (i : Nat) (hi : i < l.length) :
    (∀ W : World, (Instr.indexAt 32 (.slice (some ⟨g, 0, none⟩) l.length cap) (.int .i64 (i : Int))).run Try.prog W = .ok (.pointer (some ⟨g, i * 3, none⟩)) W) ∧
    w.cell? ⟨g, i * 3, none⟩ = some (.int .i16 l[i].c.toInt) ∧ w.cell? ⟨g, i * 3 + 1, none⟩ = some (.int .u64 l[i].x.toNat) ∧ w.cell? ⟨g, i * 3 + 2, none⟩ = some (.int .u32 l[i].k.toNat) := by
  obtain ⟨cs, t, hr, hh⟩ := h.row
  obtain ⟨h0, h1, h2⟩ := hh.get i hi
  refine ⟨fun W => ?_, S.arr_cell hr h0, S.arr_cell hr h1, S.arr_cell hr h2⟩
  have h := RC.ix g 0 l.length cap i hi W
  rw [Nat.zero_add] at h
  exact h
theorem neqZer {x : Ce} (h : x ≠ .zer) (u : World) : (binOp .neq 57 (.agg #[.int .i16 x.c.toInt, .int .u64 x.x.toNat, .int .u32 x.k.toNat]) (.agg #[.int .i16 0, .int .u64 0, .int .u32 0])).run Try.prog u = .ok (.bool true) u := neqDiff h u
set_option maxHeartbeats 2000000 in
theorem kZero (a g cap : Nat) (l : List Ce) (u : World) (h : Sk u a g cap l) : Calls Try.prog 29 #[.pointer (some ⟨a, 0, none⟩)] u fun e u' => e = .returned (.bool (decide (l = zerL l.length))) ∧ Below u.heap.size u u' := by
  obtain ⟨n, hn⟩ : ∃ n, n = l.length := ⟨_, rfl⟩
  obtain ⟨R, hR⟩ : ∃ R, R = decide (l = zerL l.length) := ⟨_, rfl⟩
  have HN := hide hn
  have hnm : (n : Int) ≤ 256 := by have := h.hm; omega
  have HH := hide h
  have z0 := S.cell_one h.box
  rw [← hn] at z0
  rw [← hR]
  have HR := hide hR
  clear hR h hn
  go_enter Try.func29, Try.ntmps29
  go_wp2
  go_loopw [10] (fun s10 wr => ∃ i : Nat, i ≤ n ∧ s10 = .int .i64 (i : Int) ∧ Hid (∀ j (h1 : j < l.length), j < i → l[j] = .zer) ∧ Hid (Below u.heap.size u wr)) (fun s10 _ => n - (intOf s10).toNat)
  case atStart => exact ⟨0, Nat.zero_le _, rfl, fun j _ hj => absurd hj (by omega), Below.refl _ _⟩
  case round =>
    obtain ⟨i, hi, rfl, HE, HB⟩ := hrel
    by_cases hlt : i < n
    · have hii : (i : Int) < (n : Int) := by omega
      have HB1 : i < l.length := by rw [← unhide HN]; exact hlt
      obtain ⟨ix1, a0, a1, a2⟩ := ((unhide HH).below (unhide HB)).cells i HB1
      rw [← unhide HN] at ix1
      by_cases hq : l[i] = .zer
      · have HE2 : Hid (∀ j (h1 : j < l.length), j < i + 1 → l[j] = .zer) := fun j h1 hj => by
          rcases Nat.lt_or_ge j i with h | h
          · exact unhide HE j h1 h
          · obtain rfl : j = i := by omega
            exact hq
        rw [hq] at a0 a1 a2
        replace a0 : wr.cell? ⟨g, i * 3, none⟩ = some (.int .i16 0) := a0
        replace a1 : wr.cell? ⟨g, i * 3 + 1, none⟩ = some (.int .u64 0) := a1
        replace a2 : wr.cell? ⟨g, i * 3 + 2, none⟩ = some (.int .u32 0) := a2
        clear hq HB1
        go_wp2
        go_roundw
        case rel => exact ⟨i + 1, by omega, by go_num, HE2, (unhide HB).alloc (unhide HB).size _⟩
        case measure => simp [intOf]; omega
      · have hne := neqZer hq
        have HD : Hid (¬ l = zerL l.length) := fun e => hq (by rw [List.getElem_of_eq e HB1]; exact zerL_get _ _ _)
        generalize l[i] = x at *
        clear hq HB1
        go_wp2
        go_ret
        exact ⟨by rw [unhide HR, decide_eq_false (unhide HD)]; rfl, (unhide HB).alloc (unhide HB).size _⟩
    · obtain rfl : i = n := by omega
      have hii : ¬ (i : Int) < (i : Int) := by omega
      go_wp2
      go_ret
      exact ⟨by rw [unhide HR, decide_eq_true (List.ext_getElem (by rw [zerL_len]) fun j h1 h2 => (unhide HE j h1 (by rw [unhide HN]; exact h1)).trans (zerL_get _ _ h2).symm)]; rfl, unhide HB⟩
/-- is the cell at a place pure -/
def pureC (n i : Nat) (x : Ce) : Bool := decide ((x.c = 1 ∨ x.c = -1) ∧ x.k = chk x.x ∧ (plc x.x n 0 = i ∨ plc x.x n 1 = i ∨ plc x.x n 2 = i))
def firI (l : List Ce) : Int := match (List.range l.length).find? (fun i => pureC l.length i (l.getD i .zer)) with | some i => (i : Int) | none => -1
theorem firI_none {l : List Ce} (h : ∀ j (hj : j < l.length), pureC l.length j l[j] = false) : firI l = -1 := by
  unfold firI
  have : (List.range l.length).find? (fun i => pureC l.length i (l.getD i .zer)) = none := by
    rw [List.find?_eq_none]
    intro j hj
    have hj' := List.mem_range.1 hj
    rw [List.getD_eq_getElem?_getD, List.getElem?_eq_getElem hj', Option.getD_some, h j hj']
    decide
  rw [this]
theorem firI_some {l : List Ce} {i : Nat} (hi : i < l.length) (h1 : pureC l.length i l[i] = true) (h : ∀ j (hj : j < l.length), j < i → pureC l.length j l[j] = false) : firI l = (i : Int) := by
  unfold firI
  have : (List.range l.length).find? (fun i => pureC l.length i (l.getD i .zer)) = some i := by
    rw [List.find?_range_eq_some]
    refine ⟨by rw [List.getD_eq_getElem?_getD, List.getElem?_eq_getElem hi, Option.getD_some]; exact h1, List.mem_range.2 hi, fun j hj => ?_⟩
    have hj' : j < l.length := by omega
    rw [List.getD_eq_getElem?_getD, List.getElem?_eq_getElem hj', Option.getD_some, h j hj' hj]
    rfl
  rw [this]
section
variable {P : Program} {ops : Array Oper} {Q : Exit → Act → World → Prop} {md : Region.Mode} {S : World → Prop} {last : Nat}
theorem wpAnyL_two {i j : Nat} {o o' : Oper} {fuel : Nat} {listed : Array Bool} {a : Act} {w : World} (hr : Region.ready md ops listed = [i, j]) (ho : ops[i]? = some o) (ho' : ops[j]? = some o') (hg : Region.wanted o (yielded ops a.tmps) = true) (hg' : Region.wanted o' (yielded ops a.tmps) = true)
    (h : ∀ K : Act → World → Prop, (∀ a w, (i ≠ last → S w) → wpAnyL P md ops Q S last fuel (listed.setIfInBounds i true) a w → K a w) → Oper.wp P o a w K Q)
    (h' : ∀ K : Act → World → Prop, (∀ a w, (j ≠ last → S w) → wpAnyL P md ops Q S last fuel (listed.setIfInBounds j true) a w → K a w) → Oper.wp P o' a w K Q) : wpAnyL P md ops Q S last (fuel + 1) listed a w := by
  refine ⟨fun h0 => absurd (hr ▸ h0) (by simp), ?_⟩
  rw [hr]
  intro k hk
  rcases List.mem_cons.1 hk with rfl | hk
  · refine wpOp_step ho fun K hK => ?_
    rw [if_pos hg]
    exact h K fun a w hs hw => hK a w ⟨hs, hw⟩
  · obtain rfl : k = j := by simpa using hk
    refine wpOp_step ho' fun K hK => ?_
    rw [if_pos hg']
    exact h' K fun a w hs hw => hK a w ⟨hs, hw⟩
end
theorem one3 (p q r : Nat) : (#[.int .i64 (p : Int), .int .i64 (q : Int), .int .i64 (r : Int)] : Array Value).all (·.oneCell') = true := by simp [Value.oneCell']
theorem asC {P : Program} {F : FuncId} {xs : Array Value} {w : World} {v : Value} {R : World → Prop} (h : Calls P F xs w fun e w' => e = .returned v ∧ R w') : Calls P F xs w fun e w' => ∃ y, e = .returned y ∧ (y = v ∧ R w') := h.mono fun _ _ ⟨h1, h2⟩ => ⟨v, h1, rfl, h2⟩
theorem entPL : ∀ args (w : World), (callFunc 40 args).run Try.prog w = .ok (.enter 40 args) w := by
  intro args w
  go_simp
set_option maxRecDepth 100000 in
set_option maxHeartbeats 4000000 in
theorem kFirst (a g cap : Nat) (l : List Ce) (u : World) (h : Sk u a g cap l) : Calls Try.prog 27 #[.pointer (some ⟨a, 0, none⟩)] u fun e u' => e = .returned (.int .i64 (firI l)) ∧ Below u.heap.size u u' := by
  obtain ⟨n, hn⟩ : ∃ n, n = l.length := ⟨_, rfl⟩
  obtain ⟨R, hR⟩ : ∃ R, R = firI l := ⟨_, rfl⟩
  have HN := hide hn
  have H3 := hide (show 3 ≤ n by rw [hn]; exact h.h3)
  have HM := hide (show n ≤ 256 by rw [hn]; exact h.hm)
  have hnm : (n : Int) ≤ 256 := by have := h.hm; omega
  have hmix : Try.prog.follows .mixedOrders = true := by kernel_rfl
  have HH := hide h
  have z0 := S.cell_one h.box
  rw [← hn] at z0
  rw [← hR]
  have HR := hide hR
  clear hR h hn
  go_enter Try.func27, Try.ntmps27
  go_wp2
  go_loopw [11] (fun s11 wr => ∃ i : Nat, i ≤ n ∧ s11 = .int .i64 (i : Int) ∧ Hid (∀ j (h1 : j < l.length), j < i → pureC l.length j l[j] = false) ∧ Hid (Below u.heap.size u wr)) (fun s11 _ => n - (intOf s11).toNat)
  case atStart => exact ⟨0, Nat.zero_le _, rfl, fun j _ hj => absurd hj (by omega), Below.refl _ _⟩
  case round =>
    obtain ⟨i, hi, rfl, HE, HB⟩ := hrel
    by_cases hlt : i < n
    · have hii : (i : Int) < (n : Int) := by omega
      have HB1 : i < l.length := by rw [← unhide HN]; exact hlt
      have HSK := hide ((unhide HH).below (unhide HB))
      obtain ⟨ix1, a0, a1, a2⟩ := (unhide HSK).cells i HB1
      have zb := S.cell_one (unhide HSK).box
      rw [← unhide HN] at ix1 zb
      have HP : Hid (pureC l.length i l[i] = decide ((l[i].c = 1 ∨ l[i].c = -1) ∧ l[i].k = chk l[i].x ∧ (plc l[i].x n 0 = i ∨ plc l[i].x n 1 = i ∨ plc l[i].x n 2 = i))) := by show pureC l.length i l[i] = _; rw [unhide HN]; rfl
      have HF : Hid (pureC l.length i l[i] = false → ∀ j (h1 : j < l.length), j < i + 1 → pureC l.length j l[j] = false) := fun hq j h1 hj => by
        rcases Nat.lt_or_ge j i with h | h
        · exact unhide HE j h1 h
        · obtain rfl : j = i := by omega
          exact hq
      have HT : Hid (pureC l.length i l[i] = true → R = (i : Int)) := fun hq => by rw [unhide HR]; exact firI_some HB1 hq (unhide HE)
      generalize pureC l.length i l[i] = pu at HP HF HT
      generalize l[i] = x at *
      by_cases hc : x.c = 1 ∨ x.c = -1
      · have hcc : (x.c.toInt != 1) = false ∨ ((x.c.toInt != 1) = true ∧ (x.c.toInt != -1) = false) := by
          rcases hc with h | h
          · exact .inl (by rw [h]; rfl)
          · exact .inr (by rw [h]; exact ⟨rfl, rfl⟩)
        have HC := hide hc
        clear hc
        by_cases hk : x.k = chk x.x
        · have hk1 : ((x.k.toNat : Int) != ((chk x.x).toNat : Int)) = false := by rw [hk]; exact bne_self_eq_false _
          have HKK := hide hk
          have HK := hide (kChk x.x)
          have HPL := hide (kPlaces x.x n (unhide H3) (unhide HM))
          unfold plA at HPL
          generalize plc x.x n 0 = p0 at *
          generalize plc x.x n 1 = p1 at *
          generalize plc x.x n 2 = p2 at *
          clear hk HB1
          rcases hcc with hc1 | ⟨hc1, hc2⟩
          · as_aux_lemma =>
              go_wp2
              go_quiet (first | exact Calls.quiet_of_same (unhide HK _) | fail)
              have hbx := S.belowDrewN ((unhide HB).alloc (unhide HB).size (.cells #[.int .i16 x.c.toInt, .int .u64 x.x.toNat, .int .u32 x.k.toNat] 57)) nq
              have hmx : ((wr.alloc (.cells #[.int .i16 x.c.toInt, .int .u64 x.x.toNat, .int .u32 x.k.toNat] 57)).drewN nq).heap[wr.heap.size]? = _ := heap_alloc_new wr (.cells #[.int .i16 x.c.toInt, .int .u64 x.x.toNat, .int .u32 x.k.toNat] 57)
              generalize (wr.alloc (.cells #[.int .i16 x.c.toInt, .int .u64 x.x.toNat, .int .u32 x.k.toNat] 57)).drewN nq = X0 at *
              generalize wr.heap.size = m at *
              have HBX0 := hide hbx
              have HMX := hide hmx
              clear hbx hmx zb a0 a1 a2 ix1 HSK HE
              go_wp2
              refine wp_region_last (fun G => Below X0.drew.heap.size X0.drew G) 9 hmix (Below.refl _ _) fun hS => ?_
              have HBX : Hid (Below u.heap.size u X0.drew) := S.belowDrew (unhide HBX0)
              have HC1 : Hid (∀ G : World, Below X0.drew.heap.size X0.drew G → G.cell? ⟨m, 1, none⟩ = some (.int .u64 x.x.toNat)) := fun G hG => S.arr_cell (S.box_below (show X0.drew.heap[m]? = _ from unhide HMX) hG) (show (#[.int .i16 x.c.toInt, .int .u64 x.x.toNat, .int .u32 x.k.toNat] : Array Value)[1]? = some (.int .u64 x.x.toNat) from rfl)
              have HC2 : Hid (∀ G : World, Below X0.drew.heap.size X0.drew G → G.cell? ⟨a, 0, none⟩ = some (.slice (some ⟨g, 0, none⟩) n cap)) := fun G hG => by
                have h := S.cell_one (((unhide HH).below (unhide HBX)).below hG).box
                rw [← unhide HN] at h
                exact h
              generalize X0.drew = X at *
              clear HMX HBX0
              by_cases hp : p0 = i ∨ p1 = i ∨ p2 = i
              · have HDC : Hid (decide ((i : Int) = (p0 : Int) ∨ (i : Int) = (p1 : Int) ∨ (i : Int) = (p2 : Int)) = true) := decide_eq_true (by omega)
                have HRI := hide (unhide HT (by rw [unhide HP]; exact decide_eq_true ⟨unhide HC, unhide HKK, hp⟩))
                clear hp
                refine wpAnyL_take 0 30 (.pointer (some ⟨m, 1, none⟩)) [] rfl rfl (by kernel_rfl) (by kernel_rfl) (by kernel_rfl) (by kernel_rfl) (by kernel_rfl) (fun _ _ _ h => h) (by rfl) (fun _ _ => by go_simp) hS ?_
                simp only [Act.put, List.setIfInBounds_toArray, List.set_cons_zero, List.set_cons_succ]
                refine wpAnyL_take 1 31 (.int .u64 x.x.toNat) [] rfl rfl (by kernel_rfl) (by kernel_rfl) (by kernel_rfl) (by kernel_rfl) (by kernel_rfl) (fun _ _ _ h => h) (by rfl) (fun G hG => by have c1 := unhide HC1 G hG; go_simp) hS ?_
                simp only [Act.put, List.setIfInBounds_toArray, List.set_cons_zero, List.set_cons_succ]
                refine wpAnyL_take 2 32 (.pointer (some ⟨a, 0, none⟩)) [] rfl rfl (by kernel_rfl) (by kernel_rfl) (by kernel_rfl) (by kernel_rfl) (by kernel_rfl) (fun _ _ _ h => h) (by rfl) (fun _ _ => by go_simp) hS ?_
                simp only [Act.put, List.setIfInBounds_toArray, List.set_cons_zero, List.set_cons_succ]
                refine wpAnyL_take 3 33 (.pointer (some ⟨a, 0, none⟩)) [] rfl rfl (by kernel_rfl) (by kernel_rfl) (by kernel_rfl) (by kernel_rfl) (by kernel_rfl) (fun _ _ _ h => h) (by rfl) (fun _ _ => by go_simp) hS ?_
                simp only [Act.put, List.setIfInBounds_toArray, List.set_cons_zero, List.set_cons_succ]
                refine wpAnyL_take 4 34 (.pointer (some ⟨a, 0, none⟩)) [] rfl rfl (by kernel_rfl) (by kernel_rfl) (by kernel_rfl) (by kernel_rfl) (by kernel_rfl) (fun _ _ _ h => h) (by rfl) (fun _ _ => by go_simp) hS ?_
                simp only [Act.put, List.setIfInBounds_toArray, List.set_cons_zero, List.set_cons_succ]
                refine wpAnyL_take 5 35 (.slice (some ⟨g, 0, none⟩) n cap) [] rfl rfl (by kernel_rfl) (by kernel_rfl) (by kernel_rfl) (by kernel_rfl) (by kernel_rfl) (fun _ _ _ h => h) (by rfl) (fun G hG => by have c2 := unhide HC2 G hG; go_simp) hS ?_
                simp only [Act.put, List.setIfInBounds_toArray, List.set_cons_zero, List.set_cons_succ]
                refine wpAnyL_take 6 36 (.int .i64 (n : Int)) [] rfl rfl (by kernel_rfl) (by kernel_rfl) (by kernel_rfl) (by kernel_rfl) (by kernel_rfl) (fun _ _ _ h => h) (by rfl) (fun _ _ => by go_simp) hS ?_
                simp only [Act.put, List.setIfInBounds_toArray, List.set_cons_zero, List.set_cons_succ]
                have hS0 := hide hS
                refine wpAnyL_two (i := 7) (j := 8) (by kernel_rfl) rfl rfl (by rfl) (by rfl) (fun K hK => ?_) (fun K hK => ?_)
                · refine S.wp_call_fn 40 _ _ (by rfl) #[.int .u64 x.x.toNat, .int .i64 (n : Int)] (by with_unfolding_all rfl) entPL (some 37) (by rfl) _ (asC (unhide HPL X)) ?_
                  rintro _ X1 ⟨rfl, hb⟩
                  have HS1 : Hid (Below X.heap.size X X1) := (unhide hS0).trans (hb.mono (unhide hS0).size)
                  clear hb
                  refine hK _ _ (fun _ => unhide HS1) ?_
                  clear hK K
                  simp only [Act.put, List.setIfInBounds_toArray, List.set_cons_zero, List.set_cons_succ]
                  refine wpAnyL_one (i := 8) (by kernel_rfl) rfl (by rfl) fun K hK => ?_
                  obtain ⟨q, hq⟩ : ∃ q, q = X1.heap.size := ⟨_, rfl⟩
                  refine S.wp_alloc_row 75 (by rfl) (some 5) (by rfl) q hq _ int3z ?_
                  intro X2 HA4 hb4 hs4
                  have HQ : Hid (X.heap.size ≤ q) := by rw [hq]; exact (unhide HS1).size
                  have HS2 : Hid (Below X.heap.size X X2) := (unhide HS1).trans ((unhide hb4).mono (by rw [hq]; exact (unhide HS1).size))
                  clear hb4 hs4 hq
                  refine hK _ _ (fun _ => unhide HS2) ?_
                  clear hK K
                  simp only [Act.put, List.setIfInBounds_toArray, List.set_cons_zero, List.set_cons_succ]
                  refine wpAnyL_one (i := 9) (by kernel_rfl) rfl (by rfl) fun K hK => ?_
                  refine S.wp_store_agg 75 _ _ (by rfl) (by rfl) q #[.int .i64 (p0 : Int), .int .i64 (p1 : Int), .int .i64 (p2 : Int)] (by with_unfolding_all rfl) (by with_unfolding_all rfl) _ _ (unhide HA4) int3 rfl (one3 p0 p1 p2) ?_
                  intro X3 HST
                  refine hK _ _ (fun h => absurd rfl h) ?_
                  clear hK K
                  refine wpAnyL_done (by kernel_rfl) ?_ _
                  have HB3 : Hid (Below X.heap.size X X3) := (unhide HST).below (unhide HS2) (unhide HQ)
                  have HQ3 := hide (unhide HST).new
                  have HCT := hide (kContains q p0 p1 p2 i 75 X3 (unhide HQ3))
                  rw [unhide HDC] at HCT
                  clear HST HQ
                  go_wp2_with (first
                    | (go_at_call 41; refine (unhide HCT).mono ?_; rintro e wq ⟨rfl, hwq⟩; obtain rfl := hwq.symm; clear HCT)
                    | fail)
                  go_ret
                  exact ⟨by rw [unhide HRI]; rfl, (unhide HBX).trans ((unhide HB3).mono (unhide HBX).size)⟩
                · obtain ⟨q, hq⟩ : ∃ q, q = X.heap.size := ⟨_, rfl⟩
                  refine S.wp_alloc_row 75 (by rfl) (some 5) (by rfl) q hq _ int3z ?_
                  intro X1 HA4 hb4 hs4
                  have HQ : Hid (X.heap.size ≤ q) := by rw [hq]; exact (unhide hS0).size
                  have HS1 : Hid (Below X.heap.size X X1) := (unhide hS0).trans ((unhide hb4).mono (by rw [hq]; exact (unhide hS0).size))
                  clear hb4 hs4 hq
                  refine hK _ _ (fun _ => unhide HS1) ?_
                  clear hK K
                  simp only [Act.put, List.setIfInBounds_toArray, List.set_cons_zero, List.set_cons_succ]
                  refine wpAnyL_one (i := 7) (by kernel_rfl) rfl (by rfl) fun K hK => ?_
                  refine S.wp_call_fn 40 _ _ (by rfl) #[.int .u64 x.x.toNat, .int .i64 (n : Int)] (by with_unfolding_all rfl) entPL (some 37) (by rfl) _ (asC (unhide HPL X1)) ?_
                  rintro _ X2 ⟨rfl, hb⟩
                  have HS2 : Hid (Below X.heap.size X X2) := (unhide HS1).trans (hb.mono (unhide HS1).size)
                  have HA5 := hide (S.box_below (unhide HA4) hb)
                  clear hb
                  refine hK _ _ (fun _ => unhide HS2) ?_
                  clear hK K
                  simp only [Act.put, List.setIfInBounds_toArray, List.set_cons_zero, List.set_cons_succ]
                  refine wpAnyL_one (i := 9) (by kernel_rfl) rfl (by rfl) fun K hK => ?_
                  refine S.wp_store_agg 75 _ _ (by rfl) (by rfl) q #[.int .i64 (p0 : Int), .int .i64 (p1 : Int), .int .i64 (p2 : Int)] (by with_unfolding_all rfl) (by with_unfolding_all rfl) _ _ (unhide HA5) int3 rfl (one3 p0 p1 p2) ?_
                  intro X3 HST
                  refine hK _ _ (fun h => absurd rfl h) ?_
                  clear hK K
                  refine wpAnyL_done (by kernel_rfl) ?_ _
                  have HB3 : Hid (Below X.heap.size X X3) := (unhide HST).below (unhide HS2) (unhide HQ)
                  have HQ3 := hide (unhide HST).new
                  have HCT := hide (kContains q p0 p1 p2 i 75 X3 (unhide HQ3))
                  rw [unhide HDC] at HCT
                  clear HST HQ
                  go_wp2_with (first
                    | (go_at_call 41; refine (unhide HCT).mono ?_; rintro e wq ⟨rfl, hwq⟩; obtain rfl := hwq.symm; clear HCT)
                    | fail)
                  go_ret
                  exact ⟨by rw [unhide HRI]; rfl, (unhide HBX).trans ((unhide HB3).mono (unhide HBX).size)⟩
              · have HDC : Hid (decide ((i : Int) = (p0 : Int) ∨ (i : Int) = (p1 : Int) ∨ (i : Int) = (p2 : Int)) = false) := decide_eq_false (by omega)
                have HPF := hide (unhide HF (by rw [unhide HP]; exact decide_eq_false fun h => hp h.2.2))
                clear hp
                refine wpAnyL_take 0 30 (.pointer (some ⟨m, 1, none⟩)) [] rfl rfl (by kernel_rfl) (by kernel_rfl) (by kernel_rfl) (by kernel_rfl) (by kernel_rfl) (fun _ _ _ h => h) (by rfl) (fun _ _ => by go_simp) hS ?_
                simp only [Act.put, List.setIfInBounds_toArray, List.set_cons_zero, List.set_cons_succ]
                refine wpAnyL_take 1 31 (.int .u64 x.x.toNat) [] rfl rfl (by kernel_rfl) (by kernel_rfl) (by kernel_rfl) (by kernel_rfl) (by kernel_rfl) (fun _ _ _ h => h) (by rfl) (fun G hG => by have c1 := unhide HC1 G hG; go_simp) hS ?_
                simp only [Act.put, List.setIfInBounds_toArray, List.set_cons_zero, List.set_cons_succ]
                refine wpAnyL_take 2 32 (.pointer (some ⟨a, 0, none⟩)) [] rfl rfl (by kernel_rfl) (by kernel_rfl) (by kernel_rfl) (by kernel_rfl) (by kernel_rfl) (fun _ _ _ h => h) (by rfl) (fun _ _ => by go_simp) hS ?_
                simp only [Act.put, List.setIfInBounds_toArray, List.set_cons_zero, List.set_cons_succ]
                refine wpAnyL_take 3 33 (.pointer (some ⟨a, 0, none⟩)) [] rfl rfl (by kernel_rfl) (by kernel_rfl) (by kernel_rfl) (by kernel_rfl) (by kernel_rfl) (fun _ _ _ h => h) (by rfl) (fun _ _ => by go_simp) hS ?_
                simp only [Act.put, List.setIfInBounds_toArray, List.set_cons_zero, List.set_cons_succ]
                refine wpAnyL_take 4 34 (.pointer (some ⟨a, 0, none⟩)) [] rfl rfl (by kernel_rfl) (by kernel_rfl) (by kernel_rfl) (by kernel_rfl) (by kernel_rfl) (fun _ _ _ h => h) (by rfl) (fun _ _ => by go_simp) hS ?_
                simp only [Act.put, List.setIfInBounds_toArray, List.set_cons_zero, List.set_cons_succ]
                refine wpAnyL_take 5 35 (.slice (some ⟨g, 0, none⟩) n cap) [] rfl rfl (by kernel_rfl) (by kernel_rfl) (by kernel_rfl) (by kernel_rfl) (by kernel_rfl) (fun _ _ _ h => h) (by rfl) (fun G hG => by have c2 := unhide HC2 G hG; go_simp) hS ?_
                simp only [Act.put, List.setIfInBounds_toArray, List.set_cons_zero, List.set_cons_succ]
                refine wpAnyL_take 6 36 (.int .i64 (n : Int)) [] rfl rfl (by kernel_rfl) (by kernel_rfl) (by kernel_rfl) (by kernel_rfl) (by kernel_rfl) (fun _ _ _ h => h) (by rfl) (fun _ _ => by go_simp) hS ?_
                simp only [Act.put, List.setIfInBounds_toArray, List.set_cons_zero, List.set_cons_succ]
                have hS0 := hide hS
                refine wpAnyL_two (i := 7) (j := 8) (by kernel_rfl) rfl rfl (by rfl) (by rfl) (fun K hK => ?_) (fun K hK => ?_)
                · refine S.wp_call_fn 40 _ _ (by rfl) #[.int .u64 x.x.toNat, .int .i64 (n : Int)] (by with_unfolding_all rfl) entPL (some 37) (by rfl) _ (asC (unhide HPL X)) ?_
                  rintro _ X1 ⟨rfl, hb⟩
                  have HS1 : Hid (Below X.heap.size X X1) := (unhide hS0).trans (hb.mono (unhide hS0).size)
                  clear hb
                  refine hK _ _ (fun _ => unhide HS1) ?_
                  clear hK K
                  simp only [Act.put, List.setIfInBounds_toArray, List.set_cons_zero, List.set_cons_succ]
                  refine wpAnyL_one (i := 8) (by kernel_rfl) rfl (by rfl) fun K hK => ?_
                  obtain ⟨q, hq⟩ : ∃ q, q = X1.heap.size := ⟨_, rfl⟩
                  refine S.wp_alloc_row 75 (by rfl) (some 5) (by rfl) q hq _ int3z ?_
                  intro X2 HA4 hb4 hs4
                  have HQ : Hid (X.heap.size ≤ q) := by rw [hq]; exact (unhide HS1).size
                  have HS2 : Hid (Below X.heap.size X X2) := (unhide HS1).trans ((unhide hb4).mono (by rw [hq]; exact (unhide HS1).size))
                  clear hb4 hs4 hq
                  refine hK _ _ (fun _ => unhide HS2) ?_
                  clear hK K
                  simp only [Act.put, List.setIfInBounds_toArray, List.set_cons_zero, List.set_cons_succ]
                  refine wpAnyL_one (i := 9) (by kernel_rfl) rfl (by rfl) fun K hK => ?_
                  refine S.wp_store_agg 75 _ _ (by rfl) (by rfl) q #[.int .i64 (p0 : Int), .int .i64 (p1 : Int), .int .i64 (p2 : Int)] (by with_unfolding_all rfl) (by with_unfolding_all rfl) _ _ (unhide HA4) int3 rfl (one3 p0 p1 p2) ?_
                  intro X3 HST
                  refine hK _ _ (fun h => absurd rfl h) ?_
                  clear hK K
                  refine wpAnyL_done (by kernel_rfl) ?_ _
                  have HB3 : Hid (Below X.heap.size X X3) := (unhide HST).below (unhide HS2) (unhide HQ)
                  have HQ3 := hide (unhide HST).new
                  have HCT := hide (kContains q p0 p1 p2 i 75 X3 (unhide HQ3))
                  rw [unhide HDC] at HCT
                  clear HST HQ
                  go_wp2_with (first
                    | (go_at_call 41; refine (unhide HCT).mono ?_; rintro e wq ⟨rfl, hwq⟩; obtain rfl := hwq.symm; clear HCT)
                    | fail)
                  go_roundw
                  case rel => exact ⟨i + 1, by omega, by go_num, unhide HPF, (unhide HBX).trans ((unhide HB3).mono (unhide HBX).size)⟩
                  case measure => simp [intOf]; omega
                · obtain ⟨q, hq⟩ : ∃ q, q = X.heap.size := ⟨_, rfl⟩
                  refine S.wp_alloc_row 75 (by rfl) (some 5) (by rfl) q hq _ int3z ?_
                  intro X1 HA4 hb4 hs4
                  have HQ : Hid (X.heap.size ≤ q) := by rw [hq]; exact (unhide hS0).size
                  have HS1 : Hid (Below X.heap.size X X1) := (unhide hS0).trans ((unhide hb4).mono (by rw [hq]; exact (unhide hS0).size))
                  clear hb4 hs4 hq
                  refine hK _ _ (fun _ => unhide HS1) ?_
                  clear hK K
                  simp only [Act.put, List.setIfInBounds_toArray, List.set_cons_zero, List.set_cons_succ]
                  refine wpAnyL_one (i := 7) (by kernel_rfl) rfl (by rfl) fun K hK => ?_
                  refine S.wp_call_fn 40 _ _ (by rfl) #[.int .u64 x.x.toNat, .int .i64 (n : Int)] (by with_unfolding_all rfl) entPL (some 37) (by rfl) _ (asC (unhide HPL X1)) ?_
                  rintro _ X2 ⟨rfl, hb⟩
                  have HS2 : Hid (Below X.heap.size X X2) := (unhide HS1).trans (hb.mono (unhide HS1).size)
                  have HA5 := hide (S.box_below (unhide HA4) hb)
                  clear hb
                  refine hK _ _ (fun _ => unhide HS2) ?_
                  clear hK K
                  simp only [Act.put, List.setIfInBounds_toArray, List.set_cons_zero, List.set_cons_succ]
                  refine wpAnyL_one (i := 9) (by kernel_rfl) rfl (by rfl) fun K hK => ?_
                  refine S.wp_store_agg 75 _ _ (by rfl) (by rfl) q #[.int .i64 (p0 : Int), .int .i64 (p1 : Int), .int .i64 (p2 : Int)] (by with_unfolding_all rfl) (by with_unfolding_all rfl) _ _ (unhide HA5) int3 rfl (one3 p0 p1 p2) ?_
                  intro X3 HST
                  refine hK _ _ (fun h => absurd rfl h) ?_
                  clear hK K
                  refine wpAnyL_done (by kernel_rfl) ?_ _
                  have HB3 : Hid (Below X.heap.size X X3) := (unhide HST).below (unhide HS2) (unhide HQ)
                  have HQ3 := hide (unhide HST).new
                  have HCT := hide (kContains q p0 p1 p2 i 75 X3 (unhide HQ3))
                  rw [unhide HDC] at HCT
                  clear HST HQ
                  go_wp2_with (first
                    | (go_at_call 41; refine (unhide HCT).mono ?_; rintro e wq ⟨rfl, hwq⟩; obtain rfl := hwq.symm; clear HCT)
                    | fail)
                  go_roundw
                  case rel => exact ⟨i + 1, by omega, by go_num, unhide HPF, (unhide HBX).trans ((unhide HB3).mono (unhide HBX).size)⟩
                  case measure => simp [intOf]; omega
          · as_aux_lemma =>
              go_wp2
              go_quiet (first | exact Calls.quiet_of_same (unhide HK _) | fail)
              have hbx := S.belowDrewN ((unhide HB).alloc (unhide HB).size (.cells #[.int .i16 x.c.toInt, .int .u64 x.x.toNat, .int .u32 x.k.toNat] 57)) nq
              have hmx : ((wr.alloc (.cells #[.int .i16 x.c.toInt, .int .u64 x.x.toNat, .int .u32 x.k.toNat] 57)).drewN nq).heap[wr.heap.size]? = _ := heap_alloc_new wr (.cells #[.int .i16 x.c.toInt, .int .u64 x.x.toNat, .int .u32 x.k.toNat] 57)
              generalize (wr.alloc (.cells #[.int .i16 x.c.toInt, .int .u64 x.x.toNat, .int .u32 x.k.toNat] 57)).drewN nq = X0 at *
              generalize wr.heap.size = m at *
              have HBX0 := hide hbx
              have HMX := hide hmx
              clear hbx hmx zb a0 a1 a2 ix1 HSK HE
              go_wp2
              refine wp_region_last (fun G => Below X0.drew.heap.size X0.drew G) 9 hmix (Below.refl _ _) fun hS => ?_
              have HBX : Hid (Below u.heap.size u X0.drew) := S.belowDrew (unhide HBX0)
              have HC1 : Hid (∀ G : World, Below X0.drew.heap.size X0.drew G → G.cell? ⟨m, 1, none⟩ = some (.int .u64 x.x.toNat)) := fun G hG => S.arr_cell (S.box_below (show X0.drew.heap[m]? = _ from unhide HMX) hG) (show (#[.int .i16 x.c.toInt, .int .u64 x.x.toNat, .int .u32 x.k.toNat] : Array Value)[1]? = some (.int .u64 x.x.toNat) from rfl)
              have HC2 : Hid (∀ G : World, Below X0.drew.heap.size X0.drew G → G.cell? ⟨a, 0, none⟩ = some (.slice (some ⟨g, 0, none⟩) n cap)) := fun G hG => by
                have h := S.cell_one (((unhide HH).below (unhide HBX)).below hG).box
                rw [← unhide HN] at h
                exact h
              generalize X0.drew = X at *
              clear HMX HBX0
              by_cases hp : p0 = i ∨ p1 = i ∨ p2 = i
              · have HDC : Hid (decide ((i : Int) = (p0 : Int) ∨ (i : Int) = (p1 : Int) ∨ (i : Int) = (p2 : Int)) = true) := decide_eq_true (by omega)
                have HRI := hide (unhide HT (by rw [unhide HP]; exact decide_eq_true ⟨unhide HC, unhide HKK, hp⟩))
                clear hp
                refine wpAnyL_take 0 30 (.pointer (some ⟨m, 1, none⟩)) [] rfl rfl (by kernel_rfl) (by kernel_rfl) (by kernel_rfl) (by kernel_rfl) (by kernel_rfl) (fun _ _ _ h => h) (by rfl) (fun _ _ => by go_simp) hS ?_
                simp only [Act.put, List.setIfInBounds_toArray, List.set_cons_zero, List.set_cons_succ]
                refine wpAnyL_take 1 31 (.int .u64 x.x.toNat) [] rfl rfl (by kernel_rfl) (by kernel_rfl) (by kernel_rfl) (by kernel_rfl) (by kernel_rfl) (fun _ _ _ h => h) (by rfl) (fun G hG => by have c1 := unhide HC1 G hG; go_simp) hS ?_
                simp only [Act.put, List.setIfInBounds_toArray, List.set_cons_zero, List.set_cons_succ]
                refine wpAnyL_take 2 32 (.pointer (some ⟨a, 0, none⟩)) [] rfl rfl (by kernel_rfl) (by kernel_rfl) (by kernel_rfl) (by kernel_rfl) (by kernel_rfl) (fun _ _ _ h => h) (by rfl) (fun _ _ => by go_simp) hS ?_
                simp only [Act.put, List.setIfInBounds_toArray, List.set_cons_zero, List.set_cons_succ]
                refine wpAnyL_take 3 33 (.pointer (some ⟨a, 0, none⟩)) [] rfl rfl (by kernel_rfl) (by kernel_rfl) (by kernel_rfl) (by kernel_rfl) (by kernel_rfl) (fun _ _ _ h => h) (by rfl) (fun _ _ => by go_simp) hS ?_
                simp only [Act.put, List.setIfInBounds_toArray, List.set_cons_zero, List.set_cons_succ]
                refine wpAnyL_take 4 34 (.pointer (some ⟨a, 0, none⟩)) [] rfl rfl (by kernel_rfl) (by kernel_rfl) (by kernel_rfl) (by kernel_rfl) (by kernel_rfl) (fun _ _ _ h => h) (by rfl) (fun _ _ => by go_simp) hS ?_
                simp only [Act.put, List.setIfInBounds_toArray, List.set_cons_zero, List.set_cons_succ]
                refine wpAnyL_take 5 35 (.slice (some ⟨g, 0, none⟩) n cap) [] rfl rfl (by kernel_rfl) (by kernel_rfl) (by kernel_rfl) (by kernel_rfl) (by kernel_rfl) (fun _ _ _ h => h) (by rfl) (fun G hG => by have c2 := unhide HC2 G hG; go_simp) hS ?_
                simp only [Act.put, List.setIfInBounds_toArray, List.set_cons_zero, List.set_cons_succ]
                refine wpAnyL_take 6 36 (.int .i64 (n : Int)) [] rfl rfl (by kernel_rfl) (by kernel_rfl) (by kernel_rfl) (by kernel_rfl) (by kernel_rfl) (fun _ _ _ h => h) (by rfl) (fun _ _ => by go_simp) hS ?_
                simp only [Act.put, List.setIfInBounds_toArray, List.set_cons_zero, List.set_cons_succ]
                have hS0 := hide hS
                refine wpAnyL_two (i := 7) (j := 8) (by kernel_rfl) rfl rfl (by rfl) (by rfl) (fun K hK => ?_) (fun K hK => ?_)
                · refine S.wp_call_fn 40 _ _ (by rfl) #[.int .u64 x.x.toNat, .int .i64 (n : Int)] (by with_unfolding_all rfl) entPL (some 37) (by rfl) _ (asC (unhide HPL X)) ?_
                  rintro _ X1 ⟨rfl, hb⟩
                  have HS1 : Hid (Below X.heap.size X X1) := (unhide hS0).trans (hb.mono (unhide hS0).size)
                  clear hb
                  refine hK _ _ (fun _ => unhide HS1) ?_
                  clear hK K
                  simp only [Act.put, List.setIfInBounds_toArray, List.set_cons_zero, List.set_cons_succ]
                  refine wpAnyL_one (i := 8) (by kernel_rfl) rfl (by rfl) fun K hK => ?_
                  obtain ⟨q, hq⟩ : ∃ q, q = X1.heap.size := ⟨_, rfl⟩
                  refine S.wp_alloc_row 75 (by rfl) (some 5) (by rfl) q hq _ int3z ?_
                  intro X2 HA4 hb4 hs4
                  have HQ : Hid (X.heap.size ≤ q) := by rw [hq]; exact (unhide HS1).size
                  have HS2 : Hid (Below X.heap.size X X2) := (unhide HS1).trans ((unhide hb4).mono (by rw [hq]; exact (unhide HS1).size))
                  clear hb4 hs4 hq
                  refine hK _ _ (fun _ => unhide HS2) ?_
                  clear hK K
                  simp only [Act.put, List.setIfInBounds_toArray, List.set_cons_zero, List.set_cons_succ]
                  refine wpAnyL_one (i := 9) (by kernel_rfl) rfl (by rfl) fun K hK => ?_
                  refine S.wp_store_agg 75 _ _ (by rfl) (by rfl) q #[.int .i64 (p0 : Int), .int .i64 (p1 : Int), .int .i64 (p2 : Int)] (by with_unfolding_all rfl) (by with_unfolding_all rfl) _ _ (unhide HA4) int3 rfl (one3 p0 p1 p2) ?_
                  intro X3 HST
                  refine hK _ _ (fun h => absurd rfl h) ?_
                  clear hK K
                  refine wpAnyL_done (by kernel_rfl) ?_ _
                  have HB3 : Hid (Below X.heap.size X X3) := (unhide HST).below (unhide HS2) (unhide HQ)
                  have HQ3 := hide (unhide HST).new
                  have HCT := hide (kContains q p0 p1 p2 i 75 X3 (unhide HQ3))
                  rw [unhide HDC] at HCT
                  clear HST HQ
                  go_wp2_with (first
                    | (go_at_call 41; refine (unhide HCT).mono ?_; rintro e wq ⟨rfl, hwq⟩; obtain rfl := hwq.symm; clear HCT)
                    | fail)
                  go_ret
                  exact ⟨by rw [unhide HRI]; rfl, (unhide HBX).trans ((unhide HB3).mono (unhide HBX).size)⟩
                · obtain ⟨q, hq⟩ : ∃ q, q = X.heap.size := ⟨_, rfl⟩
                  refine S.wp_alloc_row 75 (by rfl) (some 5) (by rfl) q hq _ int3z ?_
                  intro X1 HA4 hb4 hs4
                  have HQ : Hid (X.heap.size ≤ q) := by rw [hq]; exact (unhide hS0).size
                  have HS1 : Hid (Below X.heap.size X X1) := (unhide hS0).trans ((unhide hb4).mono (by rw [hq]; exact (unhide hS0).size))
                  clear hb4 hs4 hq
                  refine hK _ _ (fun _ => unhide HS1) ?_
                  clear hK K
                  simp only [Act.put, List.setIfInBounds_toArray, List.set_cons_zero, List.set_cons_succ]
                  refine wpAnyL_one (i := 7) (by kernel_rfl) rfl (by rfl) fun K hK => ?_
                  refine S.wp_call_fn 40 _ _ (by rfl) #[.int .u64 x.x.toNat, .int .i64 (n : Int)] (by with_unfolding_all rfl) entPL (some 37) (by rfl) _ (asC (unhide HPL X1)) ?_
                  rintro _ X2 ⟨rfl, hb⟩
                  have HS2 : Hid (Below X.heap.size X X2) := (unhide HS1).trans (hb.mono (unhide HS1).size)
                  have HA5 := hide (S.box_below (unhide HA4) hb)
                  clear hb
                  refine hK _ _ (fun _ => unhide HS2) ?_
                  clear hK K
                  simp only [Act.put, List.setIfInBounds_toArray, List.set_cons_zero, List.set_cons_succ]
                  refine wpAnyL_one (i := 9) (by kernel_rfl) rfl (by rfl) fun K hK => ?_
                  refine S.wp_store_agg 75 _ _ (by rfl) (by rfl) q #[.int .i64 (p0 : Int), .int .i64 (p1 : Int), .int .i64 (p2 : Int)] (by with_unfolding_all rfl) (by with_unfolding_all rfl) _ _ (unhide HA5) int3 rfl (one3 p0 p1 p2) ?_
                  intro X3 HST
                  refine hK _ _ (fun h => absurd rfl h) ?_
                  clear hK K
                  refine wpAnyL_done (by kernel_rfl) ?_ _
                  have HB3 : Hid (Below X.heap.size X X3) := (unhide HST).below (unhide HS2) (unhide HQ)
                  have HQ3 := hide (unhide HST).new
                  have HCT := hide (kContains q p0 p1 p2 i 75 X3 (unhide HQ3))
                  rw [unhide HDC] at HCT
                  clear HST HQ
                  go_wp2_with (first
                    | (go_at_call 41; refine (unhide HCT).mono ?_; rintro e wq ⟨rfl, hwq⟩; obtain rfl := hwq.symm; clear HCT)
                    | fail)
                  go_ret
                  exact ⟨by rw [unhide HRI]; rfl, (unhide HBX).trans ((unhide HB3).mono (unhide HBX).size)⟩
              · have HDC : Hid (decide ((i : Int) = (p0 : Int) ∨ (i : Int) = (p1 : Int) ∨ (i : Int) = (p2 : Int)) = false) := decide_eq_false (by omega)
                have HPF := hide (unhide HF (by rw [unhide HP]; exact decide_eq_false fun h => hp h.2.2))
                clear hp
                refine wpAnyL_take 0 30 (.pointer (some ⟨m, 1, none⟩)) [] rfl rfl (by kernel_rfl) (by kernel_rfl) (by kernel_rfl) (by kernel_rfl) (by kernel_rfl) (fun _ _ _ h => h) (by rfl) (fun _ _ => by go_simp) hS ?_
                simp only [Act.put, List.setIfInBounds_toArray, List.set_cons_zero, List.set_cons_succ]
                refine wpAnyL_take 1 31 (.int .u64 x.x.toNat) [] rfl rfl (by kernel_rfl) (by kernel_rfl) (by kernel_rfl) (by kernel_rfl) (by kernel_rfl) (fun _ _ _ h => h) (by rfl) (fun G hG => by have c1 := unhide HC1 G hG; go_simp) hS ?_
                simp only [Act.put, List.setIfInBounds_toArray, List.set_cons_zero, List.set_cons_succ]
                refine wpAnyL_take 2 32 (.pointer (some ⟨a, 0, none⟩)) [] rfl rfl (by kernel_rfl) (by kernel_rfl) (by kernel_rfl) (by kernel_rfl) (by kernel_rfl) (fun _ _ _ h => h) (by rfl) (fun _ _ => by go_simp) hS ?_
                simp only [Act.put, List.setIfInBounds_toArray, List.set_cons_zero, List.set_cons_succ]
                refine wpAnyL_take 3 33 (.pointer (some ⟨a, 0, none⟩)) [] rfl rfl (by kernel_rfl) (by kernel_rfl) (by kernel_rfl) (by kernel_rfl) (by kernel_rfl) (fun _ _ _ h => h) (by rfl) (fun _ _ => by go_simp) hS ?_
                simp only [Act.put, List.setIfInBounds_toArray, List.set_cons_zero, List.set_cons_succ]
                refine wpAnyL_take 4 34 (.pointer (some ⟨a, 0, none⟩)) [] rfl rfl (by kernel_rfl) (by kernel_rfl) (by kernel_rfl) (by kernel_rfl) (by kernel_rfl) (fun _ _ _ h => h) (by rfl) (fun _ _ => by go_simp) hS ?_
                simp only [Act.put, List.setIfInBounds_toArray, List.set_cons_zero, List.set_cons_succ]
                refine wpAnyL_take 5 35 (.slice (some ⟨g, 0, none⟩) n cap) [] rfl rfl (by kernel_rfl) (by kernel_rfl) (by kernel_rfl) (by kernel_rfl) (by kernel_rfl) (fun _ _ _ h => h) (by rfl) (fun G hG => by have c2 := unhide HC2 G hG; go_simp) hS ?_
                simp only [Act.put, List.setIfInBounds_toArray, List.set_cons_zero, List.set_cons_succ]
                refine wpAnyL_take 6 36 (.int .i64 (n : Int)) [] rfl rfl (by kernel_rfl) (by kernel_rfl) (by kernel_rfl) (by kernel_rfl) (by kernel_rfl) (fun _ _ _ h => h) (by rfl) (fun _ _ => by go_simp) hS ?_
                simp only [Act.put, List.setIfInBounds_toArray, List.set_cons_zero, List.set_cons_succ]
                have hS0 := hide hS
                refine wpAnyL_two (i := 7) (j := 8) (by kernel_rfl) rfl rfl (by rfl) (by rfl) (fun K hK => ?_) (fun K hK => ?_)
                · refine S.wp_call_fn 40 _ _ (by rfl) #[.int .u64 x.x.toNat, .int .i64 (n : Int)] (by with_unfolding_all rfl) entPL (some 37) (by rfl) _ (asC (unhide HPL X)) ?_
                  rintro _ X1 ⟨rfl, hb⟩
                  have HS1 : Hid (Below X.heap.size X X1) := (unhide hS0).trans (hb.mono (unhide hS0).size)
                  clear hb
                  refine hK _ _ (fun _ => unhide HS1) ?_
                  clear hK K
                  simp only [Act.put, List.setIfInBounds_toArray, List.set_cons_zero, List.set_cons_succ]
                  refine wpAnyL_one (i := 8) (by kernel_rfl) rfl (by rfl) fun K hK => ?_
                  obtain ⟨q, hq⟩ : ∃ q, q = X1.heap.size := ⟨_, rfl⟩
                  refine S.wp_alloc_row 75 (by rfl) (some 5) (by rfl) q hq _ int3z ?_
                  intro X2 HA4 hb4 hs4
                  have HQ : Hid (X.heap.size ≤ q) := by rw [hq]; exact (unhide HS1).size
                  have HS2 : Hid (Below X.heap.size X X2) := (unhide HS1).trans ((unhide hb4).mono (by rw [hq]; exact (unhide HS1).size))
                  clear hb4 hs4 hq
                  refine hK _ _ (fun _ => unhide HS2) ?_
                  clear hK K
                  simp only [Act.put, List.setIfInBounds_toArray, List.set_cons_zero, List.set_cons_succ]
                  refine wpAnyL_one (i := 9) (by kernel_rfl) rfl (by rfl) fun K hK => ?_
                  refine S.wp_store_agg 75 _ _ (by rfl) (by rfl) q #[.int .i64 (p0 : Int), .int .i64 (p1 : Int), .int .i64 (p2 : Int)] (by with_unfolding_all rfl) (by with_unfolding_all rfl) _ _ (unhide HA4) int3 rfl (one3 p0 p1 p2) ?_
                  intro X3 HST
                  refine hK _ _ (fun h => absurd rfl h) ?_
                  clear hK K
                  refine wpAnyL_done (by kernel_rfl) ?_ _
                  have HB3 : Hid (Below X.heap.size X X3) := (unhide HST).below (unhide HS2) (unhide HQ)
                  have HQ3 := hide (unhide HST).new
                  have HCT := hide (kContains q p0 p1 p2 i 75 X3 (unhide HQ3))
                  rw [unhide HDC] at HCT
                  clear HST HQ
                  go_wp2_with (first
                    | (go_at_call 41; refine (unhide HCT).mono ?_; rintro e wq ⟨rfl, hwq⟩; obtain rfl := hwq.symm; clear HCT)
                    | fail)
                  go_roundw
                  case rel => exact ⟨i + 1, by omega, by go_num, unhide HPF, (unhide HBX).trans ((unhide HB3).mono (unhide HBX).size)⟩
                  case measure => simp [intOf]; omega
                · obtain ⟨q, hq⟩ : ∃ q, q = X.heap.size := ⟨_, rfl⟩
                  refine S.wp_alloc_row 75 (by rfl) (some 5) (by rfl) q hq _ int3z ?_
                  intro X1 HA4 hb4 hs4
                  have HQ : Hid (X.heap.size ≤ q) := by rw [hq]; exact (unhide hS0).size
                  have HS1 : Hid (Below X.heap.size X X1) := (unhide hS0).trans ((unhide hb4).mono (by rw [hq]; exact (unhide hS0).size))
                  clear hb4 hs4 hq
                  refine hK _ _ (fun _ => unhide HS1) ?_
                  clear hK K
                  simp only [Act.put, List.setIfInBounds_toArray, List.set_cons_zero, List.set_cons_succ]
                  refine wpAnyL_one (i := 7) (by kernel_rfl) rfl (by rfl) fun K hK => ?_
                  refine S.wp_call_fn 40 _ _ (by rfl) #[.int .u64 x.x.toNat, .int .i64 (n : Int)] (by with_unfolding_all rfl) entPL (some 37) (by rfl) _ (asC (unhide HPL X1)) ?_
                  rintro _ X2 ⟨rfl, hb⟩
                  have HS2 : Hid (Below X.heap.size X X2) := (unhide HS1).trans (hb.mono (unhide HS1).size)
                  have HA5 := hide (S.box_below (unhide HA4) hb)
                  clear hb
                  refine hK _ _ (fun _ => unhide HS2) ?_
                  clear hK K
                  simp only [Act.put, List.setIfInBounds_toArray, List.set_cons_zero, List.set_cons_succ]
                  refine wpAnyL_one (i := 9) (by kernel_rfl) rfl (by rfl) fun K hK => ?_
                  refine S.wp_store_agg 75 _ _ (by rfl) (by rfl) q #[.int .i64 (p0 : Int), .int .i64 (p1 : Int), .int .i64 (p2 : Int)] (by with_unfolding_all rfl) (by with_unfolding_all rfl) _ _ (unhide HA5) int3 rfl (one3 p0 p1 p2) ?_
                  intro X3 HST
                  refine hK _ _ (fun h => absurd rfl h) ?_
                  clear hK K
                  refine wpAnyL_done (by kernel_rfl) ?_ _
                  have HB3 : Hid (Below X.heap.size X X3) := (unhide HST).below (unhide HS2) (unhide HQ)
                  have HQ3 := hide (unhide HST).new
                  have HCT := hide (kContains q p0 p1 p2 i 75 X3 (unhide HQ3))
                  rw [unhide HDC] at HCT
                  clear HST HQ
                  go_wp2_with (first
                    | (go_at_call 41; refine (unhide HCT).mono ?_; rintro e wq ⟨rfl, hwq⟩; obtain rfl := hwq.symm; clear HCT)
                    | fail)
                  go_roundw
                  case rel => exact ⟨i + 1, by omega, by go_num, unhide HPF, (unhide HBX).trans ((unhide HB3).mono (unhide HBX).size)⟩
                  case measure => simp [intOf]; omega
        · have hk1 : ((x.k.toNat : Int) != ((chk x.x).toNat : Int)) = true := by rw [bne_iff_ne]; exact fun e => hk (BitVec.eq_of_toNat_eq (by omega))
          have HPF := hide (unhide HF (by rw [unhide HP]; exact decide_eq_false fun h => hk h.2.1))
          have HK := hide (kChk x.x)
          clear hk HB1
          rcases hcc with hc1 | ⟨hc1, hc2⟩
          · go_wp2
            go_quiet (first | exact Calls.quiet_of_same (unhide HK _) | fail)
            go_wp2
            go_roundw
            case rel => exact ⟨i + 1, by omega, by go_num, HPF, S.belowDrewN ((unhide HB).alloc (unhide HB).size _) nq⟩
            case measure => simp [intOf]; omega
          · go_wp2
            go_quiet (first | exact Calls.quiet_of_same (unhide HK _) | fail)
            go_wp2
            go_roundw
            case rel => exact ⟨i + 1, by omega, by go_num, HPF, S.belowDrewN ((unhide HB).alloc (unhide HB).size _) nq⟩
            case measure => simp [intOf]; omega
      · have hc1 : (x.c.toInt != 1) = true := by rw [bne_iff_ne]; exact fun e => hc (.inl (BitVec.eq_of_toInt_eq e))
        have hc2 : (x.c.toInt != -1) = true := by rw [bne_iff_ne]; exact fun e => hc (.inr (BitVec.eq_of_toInt_eq e))
        have HPF := hide (unhide HF (by rw [unhide HP]; exact decide_eq_false fun h => hc h.1))
        clear hc HB1
        go_wp2
        go_roundw
        case rel => exact ⟨i + 1, by omega, by go_num, HPF, (unhide HB).alloc (unhide HB).size _⟩
        case measure => simp [intOf]; omega
    · obtain rfl : i = n := by omega
      have hii : ¬ (i : Int) < (i : Int) := by omega
      go_wp2
      go_ret
      exact ⟨by rw [unhide HR, firI_none fun j hj => unhide HE j hj (by rw [unhide HN]; exact hj)]; rfl, unhide HB⟩
end Go.Proofs.Ytopabadnbelegaa.K
