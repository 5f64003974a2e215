/- Nodes, the document's side: Find and Kid. -/
import Derived.Test.YtppmpomfihalfaaNrn
namespace Go.Proofs.Ytppmpomfihalfaa
open Go.RowKit

theorem Nd.refused_no {n : Nd} {lf : Bool} (h : n.refused lf ≠ 0) : n.check ≠ 0 ∨ (n.check = 0 ∧ n.leaf ≠ lf) := by
  unfold Nd.refused at h
  by_cases hc : n.check ≠ 0
  · exact .inl hc
  · rw [if_neg hc] at h
    refine .inr ⟨Classical.not_not.1 hc, fun hl => ?_⟩
    rw [if_neg (fun hx => hx hl)] at h
    exact h rfl
open Classical in
theorem find_at {cs : List Cl} {key : ByteArray} (hu : rises (cs.map Cl.key)) {j : Nat} (hj : j < cs.length) (fd : Bool) (hfd : fd = decide (∃ h : plc cs key < cs.length, cs[plc cs key].key = key)) :
    (cs[j].key.toList == key.toList) = (decide (j = plc cs key) && fd) := by
  have hiff : (cs[j].key.toList == key.toList) = true ↔ cs[j].key = key := by
    rw [beq_iff_eq]
    exact ⟨fun h => ba_list h, fun h => by rw [h]⟩
  by_cases hjp : j = plc cs key
  · rw [decide_eq_true hjp, Bool.true_and, hfd]
    by_cases hk : cs[j].key = key
    · rw [hiff.2 hk, decide_eq_true ⟨by rw [← hjp]; exact hj, by simp only [← hjp]; exact hk⟩]
    · rw [Bool.eq_false_iff.2 (fun h => hk (hiff.1 h)), decide_eq_false (fun ⟨h1, h2⟩ => hk (by simp only [← hjp] at h2; exact h2))]
  · rw [decide_eq_false hjp, Bool.false_and]
    refine Bool.eq_false_iff.2 fun h => ?_
    have hk := hiff.1 h
    rcases Nat.lt_or_ge j (plc cs key) with h1 | h1
    · have := plc_below h1 hj
      rw [hk, lt_irrefl] at this
      cases this
    · have hp : plc cs key < cs.length := by omega
      have h2 := plc_above hu (Nat.le_refl _) hp
      have h3 := rises_lt' hu (i := plc cs key) (j := j) (by omega) (by rw [List.length_map]; exact hj)
      simp only [List.getElem_map] at h3
      rw [hk] at h3
      rw [h3] at h2
      cases h2
open Classical in
set_option maxRecDepth 100000 in
set_option maxHeartbeats 4000000 in
theorem rFind (n : Nd) (a : Nv) (key : ByteArray) (u : World) (h : NdAt u n a) (hb : n.Kind → n.cells.length + n.keys.length ≤ 8796093022208) : Calls Try.prog 29 #[a.v n, .string key] u fun e u' => (n.refused true = 0 → e = .returned (.tuple #[.int .i64 (plc n.cells key : Int), .bool (n.found key)])) ∧ (n.refused true ≠ 0 → e = .returned (.tuple #[.int .i64 0, .bool false])) ∧ Below u.heap.size u u' := by
  have H1 := hide (fun (v : World) (hv : Below u.heap.size u v) => rCheck n a v (h.below hv) hb)
  have HC : Hid (Lies u a.ca (flatC n.cells)) := h.cells
  have hln := h.len.1
  obtain ⟨N, hN⟩ : ∃ N, N = u.heap.size := ⟨_, rfl⟩
  have HN := hide hN
  rw [← hN] at H1 ⊢
  clear hN
  rw [Nv.v_eq] at H1 ⊢
  by_cases hr : n.refused true = 0
  · have hz := Nd.refused_zero.1 hr
    have hch := Nd.check_zero.2 hz.1
    have hlf : n.leaf = true := hz.2
    have HFA := hide (fun (j : Nat) (hj : j < n.cells.length) => find_at (key := key) hz.1.up.1 hj (n.found key) rfl)
    have HBE := hide (fun (i : Nat) (h1 : i < plc n.cells key) (h2 : i < n.cells.length) => plc_below (cs := n.cells) (key := key) h1 h2)
    have HAB := hide (fun (i : Nat) (h1 : plc n.cells key ≤ i) (h2 : i < n.cells.length) => plc_above (cs := n.cells) (key := key) hz.1.up.1 h1 h2)
    have hpl := plc_le n.cells key
    have HFF : Hid (¬ plc n.cells key < n.cells.length → n.found key = false) := fun hx => decide_eq_false (fun ⟨h1, _⟩ => hx h1)
    have HP : Hid (∀ e, e = Ending.returned (.tuple #[.int .i64 (plc n.cells key : Int), .bool (n.found key)]) → (n.refused true = 0 → e = .returned (.tuple #[.int .i64 (plc n.cells key : Int), .bool (n.found key)])) ∧ (n.refused true ≠ 0 → e = .returned (.tuple #[.int .i64 0, .bool false]))) := fun e he => ⟨fun _ => he, fun hx => absurd hr hx⟩
    rw [hch, hlf] at H1
    rw [hlf]
    clear h hb hz hch hlf hr
    obtain ⟨ca, cc, ka, kc, ga, gc⟩ := a
    have HC : Hid (Lies u ca (flatC n.cells)) := unhide HC
    generalize n.found key = fd at *
    generalize plc n.cells key = p at *
    obtain ⟨cn, hcn⟩ : ∃ cn, cn = n.cells.length := ⟨_, rfl⟩
    have HCN := hide hcn
    rw [← hcn] at H1 hln hpl ⊢
    have hlni : (cn : Int) ≤ 140737488355328 := by omega
    clear hcn
    generalize n.keys.length = kn at *
    generalize n.kids.length = gn at *
    go_enter Try.func29, Try.ntmps29
    go_wp2_with (first
      | ((with_reducible refine wpList_box_node (by rfl) (.tmp 0) (by rfl) (some 2) (by rfl) N (unhide HN) true ca cn cc ka kn kc ga gn gc (by with_unfolding_all rfl) ?_); intro W0 HX0 HB0 HS0; simp only [Act.put, List.setIfInBounds_toArray, List.set_cons_zero, List.set_cons_succ]; obtain ⟨y0, y1, y2, y3⟩ := box4 (unhide HX0))
      | fail)
    refine (unhide H1 _ (unhide HB0)).mono ?_
    rintro e W1 ⟨rfl, hb1⟩
    have HK1 := hide (Kb.below ⟨unhide HB0, unhide HX0⟩ hb1)
    clear hb1 HX0 HB0 HS0 y0 y1 y2 y3
    obtain ⟨y0, y1, y2, y3⟩ := box4 (unhide HK1).2
    go_wp2_with fail
    go_loopw [6, 7, 8] (fun c t i wr => ∃ j : Nat, j ≤ cn ∧ c = .int .i64 ((min j p : Nat) : Int) ∧ t = .bool (decide (p < j) && fd) ∧ i = .int .i64 j ∧ wr = W1) (fun _ _ i _ => cn - (intOf i).toNat)
    case atStart => exact ⟨0, Nat.zero_le _, by simp, by simp, rfl, rfl⟩
    case round =>
      obtain ⟨j, hj, rfl, rfl, rfl, hw⟩ := hrel
      obtain rfl := hw.symm
      clear hw
      by_cases hlt : j < cn
      · have hji : (j : Int) < (cn : Int) := by omega
        have hjl : j < n.cells.length := by rw [← unhide HCN]; exact hlt
        have hbw : Below u.heap.size u W1 := by rw [← unhide HN]; exact (unhide HK1).1
        obtain ⟨g, o, hao, hc, hv⟩ := ((unhide HC).below hbw).cl hjl
        clear hv
        subst hao
        have hix := ixCells g o cn cc j hlt
        have hlo : j < p → Op.bytesLess n.cells[j].key.toList key.toList = true := fun hh => unhide HBE j hh hjl
        have hhi : p ≤ j → Op.bytesLess n.cells[j].key.toList key.toList = false := fun hh => unhide HAB j hh hjl
        have heq := unhide HFA j hjl
        generalize n.cells[j].key = q at *
        clear hjl hbw
        generalize o + j * 2 = j2 at *
        rcases Nat.lt_trichotomy j p with hjp | hjp | hjp
        · have h1 := hlo hjp
          have h2 : (q.toList == key.toList) = false := by rw [heq, decide_eq_false (by omega), Bool.false_and]
          have e1 : min j p = j := by omega
          have e2 : (decide (p < j) && fd) = false := by rw [decide_eq_false (by omega), Bool.false_and]
          have e3 : min (j + 1) p = j + 1 := by omega
          have e4 : (decide (p < j + 1) && fd) = false := by rw [decide_eq_false (by omega), Bool.false_and]
          rw [e1, e2]
          clear hlo hhi heq e1 e2
          go_wp2
          go_roundw
          case rel => exact ⟨j + 1, by omega, by rw [e3]; go_num, by rw [e4], by go_num, trivial⟩
          case measure => simp [intOf]; omega
        · subst hjp
          have h1 := hhi (Nat.le_refl _)
          have e1 : min j j = j := by omega
          have e2 : (decide (j < j) && fd) = false := by rw [decide_eq_false (by omega), Bool.false_and]
          have e3 : min (j + 1) j = j := by omega
          have e4 : (decide (j < j + 1) && fd) = fd := by rw [decide_eq_true (by omega), Bool.true_and]
          have h2 : (q.toList == key.toList) = fd := by rw [heq, decide_eq_true rfl, Bool.true_and]
          rw [e1, e2]
          clear hlo hhi heq e1 e2
          cases fd
          · go_wp2
            go_roundw
            case rel => exact ⟨j + 1, by omega, by rw [e3], by rw [e4], by go_num, trivial⟩
            case measure => simp [intOf]; omega
          · go_wp2
            go_roundw
            case rel => exact ⟨j + 1, by omega, by rw [e3], by rw [e4], by go_num, trivial⟩
            case measure => simp [intOf]; omega
        · have h1 := hhi (Nat.le_of_lt hjp)
          have h2 : (q.toList == key.toList) = false := by rw [heq, decide_eq_false (by omega), Bool.false_and]
          have e1 : min j p = p := by omega
          have e2 : (decide (p < j) && fd) = fd := by rw [decide_eq_true hjp, Bool.true_and]
          have e3 : min (j + 1) p = p := by omega
          have e4 : (decide (p < j + 1) && fd) = fd := by rw [decide_eq_true (by omega), Bool.true_and]
          rw [e1, e2]
          clear hlo hhi heq e1 e2
          go_wp2
          go_roundw
          case rel => exact ⟨j + 1, by omega, by rw [e3], by rw [e4], by go_num, trivial⟩
          case measure => simp [intOf]; omega
      · obtain rfl : j = cn := by omega
        have hji : ¬ (j : Int) < (j : Int) := by omega
        have e1 : min j p = p := by omega
        have e2 : (decide (p < j) && fd) = fd := by
          by_cases hp : p < j
          · rw [decide_eq_true hp, Bool.true_and]
          · rw [unhide HFF (by rw [← unhide HCN]; exact hp), Bool.and_false]
        rw [e1, e2]
        clear e1 e2
        go_wp2
        go_ret2
        exact ⟨(unhide HP _ rfl).1, (unhide HP _ rfl).2, (unhide HK1).1⟩
  · have hcl := Nd.refused_no hr
    have HP : Hid (∀ e, e = Ending.returned (.tuple #[.int .i64 0, .bool false]) → (n.refused true = 0 → e = .returned (.tuple #[.int .i64 (plc n.cells key : Int), .bool (n.found key)])) ∧ (n.refused true ≠ 0 → e = .returned (.tuple #[.int .i64 0, .bool false]))) := fun e he => ⟨fun hx => absurd hx hr, fun _ => he⟩
    generalize n.found key = fd at *
    generalize plc n.cells key = p at *
    clear h hb hr HC hln
    obtain ⟨ca, cc, ka, kc, ga, gc⟩ := a
    generalize n.refused true = rf at *
    generalize n.check = c at *
    generalize n.cells.length = cn at *
    generalize n.keys.length = kn at *
    generalize n.kids.length = gn at *
    generalize n.leaf = lf at *
    rcases hcl with hc | ⟨rfl, hlf⟩
    · have hcb : (c == 0) = false := beq_false_of_ne hc
      go_enter Try.func29, Try.ntmps29
      go_wp2_with (first
        | ((with_reducible refine wpList_box_node (by rfl) (.tmp 0) (by rfl) (some 2) (by rfl) N (unhide HN) lf ca cn cc ka kn kc ga gn gc (by with_unfolding_all rfl) ?_); intro W0 HX0 HB0 HS0; simp only [Act.put, List.setIfInBounds_toArray, List.set_cons_zero, List.set_cons_succ]; obtain ⟨y0, y1, y2, y3⟩ := box4 (unhide HX0))
        | fail)
      refine (unhide H1 _ (unhide HB0)).mono ?_
      rintro e W1 ⟨rfl, hb1⟩
      have HK1 := hide (Kb.below ⟨unhide HB0, unhide HX0⟩ hb1)
      clear hb1 HX0 HB0 HS0 y0 y1 y2 y3
      go_wp2
      go_ret2
      exact ⟨(unhide HP _ rfl).1, (unhide HP _ rfl).2, (unhide HK1).1⟩
    · obtain rfl : lf = false := by cases lf; rfl; exact absurd rfl hlf
      go_enter Try.func29, Try.ntmps29
      go_wp2_with (first
        | ((with_reducible refine wpList_box_node (by rfl) (.tmp 0) (by rfl) (some 2) (by rfl) N (unhide HN) false ca cn cc ka kn kc ga gn gc (by with_unfolding_all rfl) ?_); intro W0 HX0 HB0 HS0; simp only [Act.put, List.setIfInBounds_toArray, List.set_cons_zero, List.set_cons_succ]; obtain ⟨y0, y1, y2, y3⟩ := box4 (unhide HX0))
        | fail)
      refine (unhide H1 _ (unhide HB0)).mono ?_
      rintro e W1 ⟨rfl, hb1⟩
      have HK1 := hide (Kb.below ⟨unhide HB0, unhide HX0⟩ hb1)
      clear hb1 HX0 HB0 HS0 y0 y1 y2 y3
      obtain ⟨y0, y1, y2, y3⟩ := box4 (unhide HK1).2
      go_wp2
      go_ret2
      exact ⟨(unhide HP _ rfl).1, (unhide HP _ rfl).2, (unhide HK1).1⟩
set_option maxRecDepth 100000 in
set_option maxHeartbeats 4000000 in
theorem rKid (n : Nd) (a : Nv) (key : ByteArray) (u : World) (h : NdAt u n a) (hb : n.Kind → n.cells.length + n.keys.length ≤ 8796093022208) : Calls Try.prog 32 #[a.v n, .string key] u fun e u' => (n.refused false = 0 → e = .returned (.int .i64 (kplc n.keys key : Int))) ∧ (n.refused false ≠ 0 → e = .returned (.int .i64 (-1))) ∧ Below u.heap.size u u' := by
  have H1 := hide (fun (v : World) (hv : Below u.heap.size u v) => rCheck n a v (h.below hv) hb)
  have HK : Hid (Lies u a.ka (flatK n.keys)) := h.keys
  have hln := h.len.2.1
  obtain ⟨N, hN⟩ : ∃ N, N = u.heap.size := ⟨_, rfl⟩
  have HN := hide hN
  rw [← hN] at H1 ⊢
  clear hN
  rw [Nv.v_eq] at H1 ⊢
  by_cases hr : n.refused false = 0
  · have hz := Nd.refused_zero.1 hr
    have hch := Nd.check_zero.2 hz.1
    have hlf : n.leaf = false := hz.2
    have HBE := hide (fun (i : Nat) (h1 : i < kplc n.keys key) (h2 : i < n.keys.length) => kplc_below (ks := n.keys) (key := key) h1 h2)
    have HAB := hide (fun (i : Nat) (h1 : kplc n.keys key ≤ i) (h2 : i < n.keys.length) => kplc_above (ks := n.keys) (key := key) hz.1.up.2 h1 h2)
    have hpl := kplc_le n.keys key
    have HP : Hid (∀ e, e = Ending.returned (.int .i64 (kplc n.keys key : Int)) → (n.refused false = 0 → e = .returned (.int .i64 (kplc n.keys key : Int))) ∧ (n.refused false ≠ 0 → e = .returned (.int .i64 (-1)))) := fun e he => ⟨fun _ => he, fun hx => absurd hr hx⟩
    rw [hch, hlf] at H1
    rw [hlf]
    clear h hb hz hch hlf hr
    obtain ⟨ca, cc, ka, kc, ga, gc⟩ := a
    have HK : Hid (Lies u ka (flatK n.keys)) := unhide HK
    generalize kplc n.keys key = p at *
    obtain ⟨kn, hkn⟩ : ∃ kn, kn = n.keys.length := ⟨_, rfl⟩
    have HKN := hide hkn
    rw [← hkn] at H1 hln hpl ⊢
    have hlni : (kn : Int) ≤ 140737488355328 := by omega
    clear hkn
    generalize n.cells.length = cn at *
    generalize n.kids.length = gn at *
    go_enter Try.func32, Try.ntmps32
    go_wp2_with (first
      | ((with_reducible refine wpList_box_node (by rfl) (.tmp 0) (by rfl) (some 2) (by rfl) N (unhide HN) false ca cn cc ka kn kc ga gn gc (by with_unfolding_all rfl) ?_); intro W0 HX0 HB0 HS0; simp only [Act.put, List.setIfInBounds_toArray, List.set_cons_zero, List.set_cons_succ]; obtain ⟨y0, y1, y2, y3⟩ := box4 (unhide HX0))
      | fail)
    refine (unhide H1 _ (unhide HB0)).mono ?_
    rintro e W1 ⟨rfl, hb1⟩
    have HK1 := hide (Kb.below ⟨unhide HB0, unhide HX0⟩ hb1)
    clear hb1 HX0 HB0 HS0 y0 y1 y2 y3
    obtain ⟨y0, y1, y2, y3⟩ := box4 (unhide HK1).2
    go_wp2_with fail
    go_loopw [5, 6] (fun c i wr => ∃ j : Nat, j ≤ kn ∧ c = .int .i64 ((min j p : Nat) : Int) ∧ i = .int .i64 j ∧ wr = W1) (fun _ i _ => kn - (intOf i).toNat)
    case atStart => exact ⟨0, Nat.zero_le _, by simp, rfl, rfl⟩
    case round =>
      obtain ⟨j, hj, rfl, rfl, hw⟩ := hrel
      obtain rfl := hw.symm
      clear hw
      by_cases hlt : j < kn
      · have hji : (j : Int) < (kn : Int) := by omega
        have hjl : j < n.keys.length := by rw [← unhide HKN]; exact hlt
        have hbw : Below u.heap.size u W1 := by rw [← unhide HN]; exact (unhide HK1).1
        obtain ⟨g, o, hao, hc⟩ := ((unhide HK).below hbw).ky hjl
        subst hao
        have hix := ixStrs g o kn kc j hlt
        have hlo : j < p → Op.bytesLess key.toList n.keys[j].toList = false := fun hh => unhide HBE j hh hjl
        have hhi : p ≤ j → Op.bytesLess key.toList n.keys[j].toList = true := fun hh => unhide HAB j hh hjl
        generalize n.keys[j] = q at *
        clear hjl hbw
        generalize o + j = j2 at *
        by_cases hjp : j < p
        · have h1 := hlo hjp
          have e1 : min j p = j := by omega
          have e3 : min (j + 1) p = j + 1 := by omega
          rw [e1]
          clear hlo hhi e1
          cases h2 : Op.bytesLess q.toList key.toList
          · have h3 : (q.toList == key.toList) = true := beq_iff_eq.2 (bl_total _ _ h2 h1)
            go_wp2
            go_roundw
            case rel => exact ⟨j + 1, by omega, by rw [e3]; go_num, by go_num, trivial⟩
            case measure => simp [intOf]; omega
          · go_wp2
            go_roundw
            case rel => exact ⟨j + 1, by omega, by rw [e3]; go_num, by go_num, trivial⟩
            case measure => simp [intOf]; omega
        · have h1 := hhi (by omega)
          have e1 : min j p = p := by omega
          have e3 : min (j + 1) p = p := by omega
          have h2 : Op.bytesLess q.toList key.toList = false := lt_asymm (a := key) (b := q) h1
          have h3 : (q.toList == key.toList) = false := beq_false_of_ne (fun h => by rw [h, bl_irrefl] at h1; cases h1)
          rw [e1]
          clear hlo hhi e1
          go_wp2
          go_roundw
          case rel => exact ⟨j + 1, by omega, by rw [e3], by go_num, trivial⟩
          case measure => simp [intOf]; omega
      · obtain rfl : j = kn := by omega
        have hji : ¬ (j : Int) < (j : Int) := by omega
        have e1 : min j p = p := by omega
        rw [e1]
        clear e1
        go_wp2
        go_ret
        exact ⟨(unhide HP _ rfl).1, (unhide HP _ rfl).2, (unhide HK1).1⟩
  · have hcl := Nd.refused_no hr
    have HP : Hid (∀ e, e = Ending.returned (.int .i64 (-1)) → (n.refused false = 0 → e = .returned (.int .i64 (kplc n.keys key : Int))) ∧ (n.refused false ≠ 0 → e = .returned (.int .i64 (-1)))) := fun e he => ⟨fun hx => absurd hx hr, fun _ => he⟩
    generalize kplc n.keys key = p at *
    clear h hb hr HK hln
    obtain ⟨ca, cc, ka, kc, ga, gc⟩ := a
    generalize n.refused false = rf at *
    generalize n.check = c at *
    generalize n.cells.length = cn at *
    generalize n.keys.length = kn at *
    generalize n.kids.length = gn at *
    generalize n.leaf = lf at *
    rcases hcl with hc | ⟨rfl, hlf⟩
    · have hcb : (c == 0) = false := beq_false_of_ne hc
      go_enter Try.func32, Try.ntmps32
      go_wp2_with (first
        | ((with_reducible refine wpList_box_node (by rfl) (.tmp 0) (by rfl) (some 2) (by rfl) N (unhide HN) lf ca cn cc ka kn kc ga gn gc (by with_unfolding_all rfl) ?_); intro W0 HX0 HB0 HS0; simp only [Act.put, List.setIfInBounds_toArray, List.set_cons_zero, List.set_cons_succ]; obtain ⟨y0, y1, y2, y3⟩ := box4 (unhide HX0))
        | fail)
      refine (unhide H1 _ (unhide HB0)).mono ?_
      rintro e W1 ⟨rfl, hb1⟩
      have HK1 := hide (Kb.below ⟨unhide HB0, unhide HX0⟩ hb1)
      clear hb1 HX0 HB0 HS0 y0 y1 y2 y3
      go_wp2
      go_ret
      exact ⟨(unhide HP _ rfl).1, (unhide HP _ rfl).2, (unhide HK1).1⟩
    · obtain rfl : lf = true := by cases lf; exact absurd rfl hlf; rfl
      go_enter Try.func32, Try.ntmps32
      go_wp2_with (first
        | ((with_reducible refine wpList_box_node (by rfl) (.tmp 0) (by rfl) (some 2) (by rfl) N (unhide HN) true ca cn cc ka kn kc ga gn gc (by with_unfolding_all rfl) ?_); intro W0 HX0 HB0 HS0; simp only [Act.put, List.setIfInBounds_toArray, List.set_cons_zero, List.set_cons_succ]; obtain ⟨y0, y1, y2, y3⟩ := box4 (unhide HX0))
        | fail)
      refine (unhide H1 _ (unhide HB0)).mono ?_
      rintro e W1 ⟨rfl, hb1⟩
      have HK1 := hide (Kb.below ⟨unhide HB0, unhide HX0⟩ hb1)
      clear hb1 HX0 HB0 HS0 y0 y1 y2 y3
      obtain ⟨y0, y1, y2, y3⟩ := box4 (unhide HK1).2
      go_wp2
      go_ret
      exact ⟨(unhide HP _ rfl).1, (unhide HP _ rfl).2, (unhide HK1).1⟩
end Go.Proofs.Ytppmpomfihalfaa
