/- Segments: the document's SameDiffs and Diff. Written by mkshf.py. -/
import Derived.Test.YtbahlfpcbplofaaShb
namespace Go.Proofs.Ytbahlfpcbplofaa.S
open Go.RowKit Go.Lib
theorem wp_putD {o : Oper} {a : Act} {w : World} {K : Act → World → Prop} {Q : Exit → Act → World → Prop} (s x : Operand) (ho : o.op = .call { callee := .builtin .append, args := #[s, x], argTypes := #[35, 35] }) (d : Option Tmp) (hd : o.dst = d)
    (B : Nat) (l m : List Df) (n1 n2 : Nat) (e1 : n1 = l.length) (e2 : n2 = m.length) (ao bo : Option Addr) (c c2 : Nat) (hs : a.eval s = .slice ao n1 c) (hx : a.eval x = .slice bo n2 c2) (hown : RD.Own w B l ao c) (hm : RD.At w m bo c2) (hl : (l.length + m.length) * 48 ≤ 140737488355328) (hB : B ≤ w.heap.size)
    (h : ∀ ao' n' c' w', Hid (RD.Put w w' B l m ao c ao' n' c') → K (a.put d (.slice ao' n' c')) w') : o.wp Try.prog a w K Q :=
  RD.wp_put s x ho d hd B l m n1 n2 e1 e2 ao bo c c2 hs hx hown hm hl hB h
theorem bsD (W : World) (x y z : ByteArray) : (Instr.buildSlice 35 1 #[(0, .agg #[.string x, .string y, .string z])]).run Try.prog W = .ok (.slice (some ⟨W.heap.size, 0, none⟩) 1 1) (W.alloc (.cells #[.string x, .string y, .string z] 41)) := by kernel_rfl
set_option maxRecDepth 100000 in
set_option maxHeartbeats 2000000 in
theorem qSameD (a b : List Df) (ao bo : Option Addr) (n m c d : Nat) (u : World) (h : Dl u a ao n c) (h' : Dl u b bo m d) : Calls Try.prog 30 #[.slice ao n c, .slice bo m d] u fun e u' => e = .returned (.bool (decide (a = b))) ∧ Below u.heap.size u u' := by
  have hnf := h.few
  have hmf := h'.few
  have hni : (n : Int) ≤ 4398046511000 := by omega
  have hmi : (m : Int) ≤ 4398046511000 := by omega
  by_cases hnm : n = m
  · subst hnm
    have HQ := hide h
    have HQ' := hide h'
    have HLN := hide h.hn
    have HLN' := hide h'.hn
    have HE : Hid (∀ i (hi : i < a.length) (hi' : i < b.length), a[i] ≠ b[i] → decide (a = b) = false) := fun i hi hi' hne => decide_eq_false fun e => hne (by subst e; rfl)
    have HT : Hid ((∀ i (hi : i < a.length) (hi' : i < b.length), a[i] = b[i]) → decide (a = b) = true) := fun hg => decide_eq_true (List.ext_getElem (by rw [← unhide HLN, ← unhide HLN']) fun i h1 h2 => hg i h1 h2)
    generalize decide (a = b) = ok at *
    clear h h' hnf hmf hmi
    go_enter Try.func30, Try.ntmps30
    go_wp2
    go_loopw [5] (fun i wr => ∃ k : Nat, k ≤ n ∧ i = .int .i64 k ∧ Hid (Below u.heap.size u wr ∧ ∀ j (hj : j < a.length) (hj' : j < b.length), j < k → a[j] = b[j])) (fun i _ => n - (intOf i).toNat)
    case atStart => exact ⟨0, Nat.zero_le _, rfl, Below.refl _ _, fun j _ _ hj => absurd hj (Nat.not_lt_zero _)⟩
    case round =>
      obtain ⟨k, hk, rfl, HI⟩ := hrel
      by_cases hlt : k < n
      · have hki : (k : Int) < (n : Int) := by omega
        have hka : k < a.length := by rw [← unhide HLN]; exact hlt
        have hkb : k < b.length := by rw [← unhide HLN']; exact hlt
        have HBR := hide (unhide HI).1
        obtain ⟨g, o, hao, c1, c2, c3⟩ := ((unhide HQ).below (unhide HBR)).df hka
        obtain ⟨g', o', hbo, d1, d2, d3⟩ := ((unhide HQ').below (unhide HBR)).df hkb
        subst hao hbo
        have hix := ixDf g o n c k hlt
        have hix' := ixDf g' o' n d k hlt
        have HR : Hid (a[k] = b[k] → ∀ j (hj : j < a.length) (hj' : j < b.length), j < k + 1 → a[j] = b[j]) := fun hg j hj hj' hjk => by
          rcases Nat.lt_succ_iff_lt_or_eq.1 hjk with h | rfl
          · exact (unhide HI).2 j hj hj' h
          · exact hg
        have HE1 := hide (unhide HE k hka hkb)
        have hne := neqD a[k] b[k]
        generalize a[k] = x at *
        generalize b[k] = y at *
        clear HI HE
        generalize o + k * 3 = oo at *
        generalize o' + k * 3 = op at *
        by_cases hxy : x = y
        · rw [decide_eq_true hxy, show (!true) = false from rfl] at hne
          have HXY := hide hxy
          clear hxy
          obtain ⟨x1, x2, x3⟩ := x
          obtain ⟨y1, y2, y3⟩ := y
          go_wp2_with fail
          go_quiet (fail)
          go_wp2
          go_roundw
          case rel => exact ⟨k + 1, by omega, by go_num, belowDrewN (unhide HBR) _, unhide HR (unhide HXY)⟩
          case measure => simp [intOf]; omega
        · rw [decide_eq_false hxy, show (!false) = true from rfl] at hne
          have HB := hide (unhide HE1 hxy)
          clear hxy
          obtain ⟨x1, x2, x3⟩ := x
          obtain ⟨y1, y2, y3⟩ := y
          go_wp2_with fail
          go_quiet (fail)
          go_wp2
          go_ret
          exact ⟨by rw [unhide HB]; rfl, belowDrewN (unhide HBR) _⟩
      · obtain rfl : k = n := by omega
        have hki : ¬ (k : Int) < (k : Int) := by omega
        go_wp2
        go_ret
        refine ⟨?_, (unhide HI).1⟩
        rw [unhide HT fun i hi hi' => (unhide HI).2 i hi hi' (by rw [unhide HLN]; exact hi)]
        rfl
  · rw [decide_eq_false (fun e => hnm (by rw [h.hn, h'.hn, e]))]
    have hne : ¬ (n : Int) = (m : Int) := by omega
    have hne2 : ((n : Int) != (m : Int)) = true := by simpa using hne
    clear h h'
    go_enter Try.func30, Try.ntmps30
    go_wp2
    go_ret
    exact ⟨rfl, Below.refl _ _⟩

theorem dif_a {x : En} (h : x.2 ≠ eB) : dif1 (x.1, some x, none) = [(x.1, x.2, eB)] := by unfold dif1; rw [if_neg (by exact h)]; rfl
theorem dif_b {y : En} (h : y.2 ≠ eB) : dif1 (y.1, none, some y) = [(y.1, eB, y.2)] := by unfold dif1; rw [if_neg (by exact fun e => h e.symm)]; rfl
theorem difs_cons (t : Tell En En) (s : List (Tell En En)) : difs (t :: s) = dif1 t ++ difs s := List.flatMap_cons ..
theorem li_sum {l : List En} (h : liB l = true) {i : Nat} (hi : i < l.length) : l[i].2 ≠ eB := by
  rcases li_ok h with h0 | ⟨wd, hok⟩
  · subst h0; simp at hi
  · intro he
    have h1 := hok.wid i hi
    have h2 : (eB : ByteArray).size = 0 := rfl
    rw [he, h2] at h1
    have := hok.1.1
    omega
section
variable {a b : List En} {i k : Nat} {acc dl : List Df} (h : acc ++ difs (mgE (a.drop i) (b.drop k)) = dl)
include h
theorem DI.len (_hi : i ≤ a.length) (_hk : k ≤ b.length) : acc.length ≤ dl.length := by rw [← h, List.length_append]; omega
theorem DI.l (hi : i < a.length) (hs : a[i].2 ≠ eB) (hk : b.length ≤ k ∨ ∃ hk : k < b.length, lt a[i].1 b[k].1 = true) : (acc ++ [(a[i].1, a[i].2, eB)]) ++ difs (mgE (a.drop (i + 1)) (b.drop k)) = dl := by
  rw [drop_at hi] at h
  rw [← h, List.append_assoc, List.singleton_append]
  congr 1
  rcases hk with hk | ⟨hk, hl⟩
  · rw [List.drop_eq_nil_of_le hk]
    unfold mgE
    rw [mrg_r, mrg_r, List.map_cons, difs_cons, dif_a hs]; rfl
  · rw [drop_at hk]
    unfold mgE
    rw [mrg_lt (f := Prod.fst) (g := Prod.fst) hl, difs_cons, dif_a hs]; rfl
theorem DI.r (hk : k < b.length) (hs : b[k].2 ≠ eB) (hi : a.length ≤ i ∨ ∃ hi : i < a.length, lt b[k].1 a[i].1 = true) : (acc ++ [(b[k].1, eB, b[k].2)]) ++ difs (mgE (a.drop i) (b.drop (k + 1))) = dl := by
  rw [drop_at hk] at h
  rw [← h, List.append_assoc, List.singleton_append]
  congr 1
  rcases hi with hi | ⟨hi, hl⟩
  · rw [List.drop_eq_nil_of_le hi]
    unfold mgE
    rw [mrg_l, mrg_l, List.map_cons, difs_cons, dif_b hs]; rfl
  · rw [drop_at hi]
    unfold mgE
    rw [mrg_gt (f := Prod.fst) (g := Prod.fst) hl, difs_cons, dif_b hs]; rfl
theorem DI.e (hi : i < a.length) (hk : k < b.length) (he : a[i].1 = b[k].1) (hs : a[i].2 = b[k].2) : acc ++ difs (mgE (a.drop (i + 1)) (b.drop (k + 1))) = dl := by
  rw [drop_at hi, drop_at hk] at h
  rw [← h]
  congr 1
  unfold mgE
  rw [mrg_eq (f := Prod.fst) (g := Prod.fst) he, difs_cons]
  unfold dif1
  rw [if_pos (by exact hs)]; rfl
theorem DI.n (hi : i < a.length) (hk : k < b.length) (he : a[i].1 = b[k].1) (hs : a[i].2 ≠ b[k].2) : (acc ++ [(a[i].1, a[i].2, b[k].2)]) ++ difs (mgE (a.drop (i + 1)) (b.drop (k + 1))) = dl := by
  rw [drop_at hi, drop_at hk] at h
  rw [← h, List.append_assoc, List.singleton_append]
  congr 1
  unfold mgE
  rw [mrg_eq (f := Prod.fst) (g := Prod.fst) he, difs_cons]
  unfold dif1
  rw [if_neg (by exact hs)]; rfl
theorem DI.done (hi : a.length ≤ i) (hk : b.length ≤ k) : acc = dl := by
  rw [List.drop_eq_nil_of_le hi, List.drop_eq_nil_of_le hk] at h
  rw [← h]
  unfold mgE
  rw [mrg_l]
  exact (List.append_nil acc).symm
end

set_option maxRecDepth 100000 in
set_option maxHeartbeats 8000000 in
theorem qDiff (a b : List En) (ao bo : Option Addr) (n m c d : Nat) (u : World) (ha : El u a ao n c) (hb : El u b bo m d) (hm : n + m ≤ 1099511627776) (dl : List Df) (r : Int) (hv : difV a b = (dl, r)) : Calls Try.prog 28 #[.slice ao n c, .slice bo m d] u fun e u' => ∃ xo k c', e = .returned (.tuple #[.slice xo k c', .int .i64 r]) ∧ k = dl.length ∧ RD.Own u' u.heap.size dl xo c' ∧ Below u.heap.size u u' := by
  have hmix : Try.prog.follows .mixedOrders = true := by kernel_rfl
  have HA := hide ha
  have HB := hide hb
  have HNA := hide ha.hn
  have HNB := hide hb.hn
  have hni : (n : Int) ≤ 1099511627776 := by omega
  have hmi : (m : Int) ≤ 1099511627776 := by omega
  have HL1 := hide fun (G : World) (hG : Below u.heap.size u G) => qList a ao n c G (ha.below hG)
  have HL2 := hide fun (G : World) (hG : Below u.heap.size u G) => qList b bo m d G (hb.below hG)
  unfold difV at hv
  by_cases h1 : liB a = true
  · rw [h1] at HL1
    by_cases h2 : liB b = true
    · rw [h2] at HL2
      rw [if_pos ⟨h1, h2⟩] at hv
      have HD : Hid (dl = difs (mgE a b)) := (Prod.mk.inj hv).1.symm
      obtain rfl : r = 0 := (Prod.mk.inj hv).2.symm
      have HDL : Hid (dl.length ≤ 1099511627776) := by
        rw [unhide HD]
        have e1 := difs_le (mgE a b)
        have e2 := mrg_len (f := Prod.fst) (g := Prod.fst) a b
        have e3 := ha.hn
        have e4 := hb.hn
        exact Nat.le_trans e1 (Nat.le_trans e2 (by omega))
      have HSA : Hid (∀ i (hi : i < a.length), a[i].2 ≠ eB) := fun i hi => li_sum h1 hi
      have HSB : Hid (∀ i (hi : i < b.length), b[i].2 ≠ eB) := fun i hi => li_sum h2 hi
      have HCA : Hid (∀ i (hi : i < a.length), ∃ g o, ao = some ⟨g, o, none⟩ ∧ ∀ G : World, Below u.heap.size u G → G.cell? ⟨g, o + i * 2, none⟩ = some (.string a[i].1) ∧ G.cell? ⟨g, o + i * 2 + 1, none⟩ = some (.string a[i].2)) := fun i hi => by
        obtain ⟨g, o, e, _⟩ := ha.en hi
        refine ⟨g, o, e, fun G hG => ?_⟩
        obtain ⟨g', o', e', h3⟩ := (ha.below hG).en hi
        rw [e] at e'; cases e'; exact h3
      have HCB : Hid (∀ i (hi : i < b.length), ∃ g o, bo = some ⟨g, o, none⟩ ∧ ∀ G : World, Below u.heap.size u G → G.cell? ⟨g, o + i * 2, none⟩ = some (.string b[i].1) ∧ G.cell? ⟨g, o + i * 2 + 1, none⟩ = some (.string b[i].2)) := fun i hi => by
        obtain ⟨g, o, e, _⟩ := hb.en hi
        refine ⟨g, o, e, fun G hG => ?_⟩
        obtain ⟨g', o', e', h3⟩ := (hb.below hG).en hi
        rw [e] at e'; cases e'; exact h3
      clear ha hb h1 h2 hv hm HA HB
      go_enter Try.func28, Try.ntmps28
      go_wp2_with (first
        | (go_at_call_of 50 (Value.slice ao n c); refine (unhide HL1 u (Below.refl _ _)).mono ?_; rintro e W1 ⟨rfl, hb⟩; have HB1 := hide hb; clear hb)
        | (go_at_call 50; refine (unhide HL2 W1 (unhide HB1)).mono ?_; rintro e W2 ⟨rfl, hb⟩; have HB2 : Hid (Below u.heap.size u W2) := Below.step (unhide HB1) hb; clear hb HB1)
        | fail)
      go_loopw [6, 7, 8] (fun so si sk wr => ∃ (i k m0 cc : Nat) (xo : Option Addr) (acc : List Df), i ≤ n ∧ k ≤ m ∧ si = .int .i64 i ∧ sk = .int .i64 k ∧ so = .slice xo m0 cc ∧ Hid (m0 = acc.length) ∧ Hid (acc ++ difs (mgE (a.drop i) (b.drop k)) = dl) ∧ Hid (RD.Own wr u.heap.size acc xo cc) ∧ Hid (Below u.heap.size u wr)) (fun _ si sk _ => (n - (intOf si).toNat) + (m - (intOf sk).toNat))
      case atStart => exact ⟨0, 0, 0, 0, none, [], Nat.zero_le _, Nat.zero_le _, rfl, rfl, rfl, rfl, (unhide HD).symm, Rec.Own.none _ _, unhide HB2⟩
      case round =>
        clear HB2 HL1 HL2
        obtain ⟨i, k, m0, cc, xo, acc, hin, hkm, rfl, rfl, rfl, HML, HAC, HO, HI⟩ := hrel
        have HLL : Hid (∀ e : Df, (acc.length + [e].length) * 48 ≤ 140737488355328) := fun e => by
          have e1 := DI.len (unhide HAC) (by rw [← unhide HNA]; exact hin) (by rw [← unhide HNB]; exact hkm)
          have e2 := unhide HDL
          rw [List.length_singleton]; omega
        by_cases hi : i < n
        · have hii : (i : Int) < (n : Int) := by omega
          have hil : i < a.length := by rw [← unhide HNA]; exact hi
          by_cases hk : k < m
          · have hkk : (k : Int) < (m : Int) := by omega
            have hkl : k < b.length := by rw [← unhide HNB]; exact hk
            have hkg : ¬ (k : Int) ≥ (m : Int) := by omega
            have hig : ¬ (i : Int) ≥ (n : Int) := by omega
            obtain ⟨g, o, hao, HCA⟩ := unhide HCA i hil
            rw [hao] at *
            replace HCA := hide HCA
            have hix := ixE g o n c i hi
            obtain ⟨g2, o2, hbo, HCB⟩ := unhide HCB k hkl
            rw [hbo] at *
            replace HCB := hide HCB
            have hix2 := ixE g2 o2 m d k hk
            by_cases h1 : lt a[i].1 b[k].1 = true
            · have HN := hide (DI.l (unhide HAC) hil (unhide HSA i hil) (.inr ⟨hkl, h1⟩))
              clear HSA HSB HAC
              unfold lt at h1
              generalize a[i] = x at *
              obtain ⟨xk, xs⟩ := x
              have HCA : Hid (∀ G : World, Below u.heap.size u G → G.cell? ⟨g, o + i * 2, none⟩ = some (.string xk) ∧ G.cell? ⟨g, o + i * 2 + 1, none⟩ = some (.string xs)) := HCA
              generalize o + i * 2 = oo at *
              obtain ⟨ca0, ca1⟩ := unhide HCA wr (unhide HI)
              generalize b[k] = y at *
              obtain ⟨yk, ys⟩ := y
              have HCB : Hid (∀ G : World, Below u.heap.size u G → G.cell? ⟨g2, o2 + k * 2, none⟩ = some (.string yk) ∧ G.cell? ⟨g2, o2 + k * 2 + 1, none⟩ = some (.string ys)) := HCB
              generalize o2 + k * 2 = op at *
              obtain ⟨cb0, cb1⟩ := unhide HCB wr (unhide HI)
              have h1 : Op.bytesLess xk.toList yk.toList = true := h1
              have HN : Hid ((acc ++ [(xk, xs, ⟨#[]⟩)]) ++ difs (mgE (a.drop (i + 1)) (b.drop k)) = dl) := HN
              go_wp2_with fail
              refine wp_region_last (fun G => Below u.heap.size u G) 23 hmix (belowDrew (unhide HI)) fun hS => ?_
              have HOY1 : Hid (RD.Own wr.drew u.heap.size acc xo cc) := (unhide HO).below (belowDrew (Below.refl _ _))
              generalize wr.drew = Y1 at hS HOY1 ⊢
              refine wpAnyL_take 0 62 (.int .i64 (k : Int)) [3, 4, 9] rfl rfl (by kernel_rfl) (by kernel_rfl) (by kernel_rfl) (by kernel_rfl) (by kernel_rfl) (fun _ _ _ h => h) (by rfl) (fun _ _ => by go_simp) hS ?_
              simp only [Act.put, List.setIfInBounds_toArray, List.set_cons_zero, List.set_cons_succ]
              refine wpAnyL_take 1 63 (.slice (some ⟨g2, o2, none⟩) m d) [2, 3, 4, 9] rfl rfl (by kernel_rfl) (by kernel_rfl) (by kernel_rfl) (by kernel_rfl) (by kernel_rfl) (fun _ _ _ h => h) (by rfl) (fun _ _ => by go_simp) hS ?_
              simp only [Act.put, List.setIfInBounds_toArray, List.set_cons_zero, List.set_cons_succ]
              refine wpAnyL_take 2 64 (.int .i64 (m : Int)) [3, 4, 9] rfl rfl (by kernel_rfl) (by kernel_rfl) (by kernel_rfl) (by kernel_rfl) (by kernel_rfl) (fun _ _ _ h => h) (by rfl) (fun _ _ => by go_simp) hS ?_
              simp only [Act.put, List.setIfInBounds_toArray, List.set_cons_zero, List.set_cons_succ]
              refine wpAnyL_take 3 65 (.bool false) [4, 9] rfl rfl (by kernel_rfl) (by kernel_rfl) (by kernel_rfl) (by kernel_rfl) (by kernel_rfl) (fun _ _ _ h => h) (by rfl) (fun _ _ => by go_simp) hS ?_
              simp only [Act.put, List.setIfInBounds_toArray, List.set_cons_zero, List.set_cons_succ]
              refine wpAnyL_take 4 66 (.bool false) [9] rfl rfl (by kernel_rfl) (by kernel_rfl) (by kernel_rfl) (by kernel_rfl) (by kernel_rfl) (fun _ _ _ h => h) (by rfl) (fun _ _ => by go_simp) hS ?_
              simp only [Act.put, List.setIfInBounds_toArray, List.set_cons_zero, List.set_cons_succ]
              refine wpAnyL_take 5 67 (.int .i64 (i : Int)) [8, 9] rfl rfl (by kernel_rfl) (by kernel_rfl) (by kernel_rfl) (by kernel_rfl) (by kernel_rfl) (fun _ _ _ h => h) (by rfl) (fun _ _ => by go_simp) hS ?_
              simp only [Act.put, List.setIfInBounds_toArray, List.set_cons_zero, List.set_cons_succ]
              refine wpAnyL_take 6 68 (.slice (some ⟨g, o, none⟩) n c) [7, 8, 9] rfl rfl (by kernel_rfl) (by kernel_rfl) (by kernel_rfl) (by kernel_rfl) (by kernel_rfl) (fun _ _ _ h => h) (by rfl) (fun _ _ => by go_simp) hS ?_
              simp only [Act.put, List.setIfInBounds_toArray, List.set_cons_zero, List.set_cons_succ]
              refine wpAnyL_take 7 69 (.int .i64 (n : Int)) [8, 9] rfl rfl (by kernel_rfl) (by kernel_rfl) (by kernel_rfl) (by kernel_rfl) (by kernel_rfl) (fun _ _ _ h => h) (by rfl) (fun _ _ => by go_simp) hS ?_
              simp only [Act.put, List.setIfInBounds_toArray, List.set_cons_zero, List.set_cons_succ]
              refine wpAnyL_take 8 70 (.bool true) [9] rfl rfl (by kernel_rfl) (by kernel_rfl) (by kernel_rfl) (by kernel_rfl) (by kernel_rfl) (fun _ _ _ h => h) (by rfl) (fun _ _ => by go_simp) hS ?_
              simp only [Act.put, List.setIfInBounds_toArray, List.set_cons_zero, List.set_cons_succ]
              refine wpAnyL_take 9 71 (.bool true) [] rfl rfl (by kernel_rfl) (by kernel_rfl) (by kernel_rfl) (by kernel_rfl) (by kernel_rfl) (fun _ _ _ h => h) (by rfl) (fun _ _ => by go_simp) hS ?_
              simp only [Act.put, List.setIfInBounds_toArray, List.set_cons_zero, List.set_cons_succ]
              refine wpAnyL_take 10 72 (.slice (some ⟨g, o, none⟩) n c) [12, 13, 14, 20, 21, 22] rfl rfl (by kernel_rfl) (by kernel_rfl) (by kernel_rfl) (by kernel_rfl) (by kernel_rfl) (fun _ _ _ h => h) (by rfl) (fun _ _ => by go_simp) hS ?_
              simp only [Act.put, List.setIfInBounds_toArray, List.set_cons_zero, List.set_cons_succ]
              refine wpAnyL_take 11 73 (.int .i64 (i : Int)) [12, 13, 14, 20, 21, 22] rfl rfl (by kernel_rfl) (by kernel_rfl) (by kernel_rfl) (by kernel_rfl) (by kernel_rfl) (fun _ _ _ h => h) (by rfl) (fun _ _ => by go_simp) hS ?_
              simp only [Act.put, List.setIfInBounds_toArray, List.set_cons_zero, List.set_cons_succ]
              refine wpAnyL_take 12 74 (.pointer (some ⟨g, oo, none⟩)) [13, 14, 20, 21, 22] rfl rfl (by kernel_rfl) (by kernel_rfl) (by kernel_rfl) (by kernel_rfl) (by kernel_rfl) (fun _ _ _ h => h) (by rfl) (fun _ _ => by go_simp) hS ?_
              simp only [Act.put, List.setIfInBounds_toArray, List.set_cons_zero, List.set_cons_succ]
              refine wpAnyL_take 13 75 (.pointer (some ⟨g, oo, none⟩)) [14, 20, 21, 22] rfl rfl (by kernel_rfl) (by kernel_rfl) (by kernel_rfl) (by kernel_rfl) (by kernel_rfl) (fun _ _ _ h => h) (by rfl) (fun _ _ => by go_simp) hS ?_
              simp only [Act.put, List.setIfInBounds_toArray, List.set_cons_zero, List.set_cons_succ]
              refine wpAnyL_take 14 76 (.string xk) [20, 21, 22] rfl rfl (by kernel_rfl) (by kernel_rfl) (by kernel_rfl) (by kernel_rfl) (by kernel_rfl) (fun _ _ _ h => h) (by rfl) (fun G hG => by obtain ⟨e0, e1⟩ := unhide HCA G hG; go_simp) hS ?_
              simp only [Act.put, List.setIfInBounds_toArray, List.set_cons_zero, List.set_cons_succ]
              refine wpAnyL_take 15 77 (.slice (some ⟨g2, o2, none⟩) m d) [17, 18, 19, 20, 21, 22] rfl rfl (by kernel_rfl) (by kernel_rfl) (by kernel_rfl) (by kernel_rfl) (by kernel_rfl) (fun _ _ _ h => h) (by rfl) (fun _ _ => by go_simp) hS ?_
              simp only [Act.put, List.setIfInBounds_toArray, List.set_cons_zero, List.set_cons_succ]
              refine wpAnyL_take 16 78 (.int .i64 (k : Int)) [17, 18, 19, 20, 21, 22] rfl rfl (by kernel_rfl) (by kernel_rfl) (by kernel_rfl) (by kernel_rfl) (by kernel_rfl) (fun _ _ _ h => h) (by rfl) (fun _ _ => by go_simp) hS ?_
              simp only [Act.put, List.setIfInBounds_toArray, List.set_cons_zero, List.set_cons_succ]
              refine wpAnyL_take 17 79 (.pointer (some ⟨g2, op, none⟩)) [18, 19, 20, 21, 22] rfl rfl (by kernel_rfl) (by kernel_rfl) (by kernel_rfl) (by kernel_rfl) (by kernel_rfl) (fun _ _ _ h => h) (by rfl) (fun _ _ => by go_simp) hS ?_
              simp only [Act.put, List.setIfInBounds_toArray, List.set_cons_zero, List.set_cons_succ]
              refine wpAnyL_take 18 80 (.pointer (some ⟨g2, op, none⟩)) [19, 20, 21, 22] rfl rfl (by kernel_rfl) (by kernel_rfl) (by kernel_rfl) (by kernel_rfl) (by kernel_rfl) (fun _ _ _ h => h) (by rfl) (fun _ _ => by go_simp) hS ?_
              simp only [Act.put, List.setIfInBounds_toArray, List.set_cons_zero, List.set_cons_succ]
              refine wpAnyL_take 19 81 (.string yk) [20, 21, 22] rfl rfl (by kernel_rfl) (by kernel_rfl) (by kernel_rfl) (by kernel_rfl) (by kernel_rfl) (fun _ _ _ h => h) (by rfl) (fun G hG => by obtain ⟨e0, e1⟩ := unhide HCB G hG; go_simp) hS ?_
              simp only [Act.put, List.setIfInBounds_toArray, List.set_cons_zero, List.set_cons_succ]
              refine wpAnyL_take 20 82 (.bool true) [21, 22] rfl rfl (by kernel_rfl) (by kernel_rfl) (by kernel_rfl) (by kernel_rfl) (by kernel_rfl) (fun _ _ _ h => h) (by rfl) (fun _ _ => by go_simp) hS ?_
              simp only [Act.put, List.setIfInBounds_toArray, List.set_cons_zero, List.set_cons_succ]
              refine wpAnyL_take 21 83 (.bool true) [22] rfl rfl (by kernel_rfl) (by kernel_rfl) (by kernel_rfl) (by kernel_rfl) (by kernel_rfl) (fun _ _ _ h => h) (by rfl) (fun _ _ => by go_simp) hS ?_
              simp only [Act.put, List.setIfInBounds_toArray, List.set_cons_zero, List.set_cons_succ]
              refine wpAnyL_take 22 84 (.bool true) [] rfl rfl (by kernel_rfl) (by kernel_rfl) (by kernel_rfl) (by kernel_rfl) (by kernel_rfl) (fun _ _ _ h => h) (by rfl) (fun _ _ => by go_simp) hS ?_
              simp only [Act.put, List.setIfInBounds_toArray, List.set_cons_zero, List.set_cons_succ]
              refine wpAnyL_one (i := 23) (by kernel_rfl) rfl (by rfl) fun K hK => ?_
              refine wp_val (.bool true) (by go_simp) (some 61) (by rfl) ?_
              refine hK _ _ (fun _ => hS) ?_
              clear hK K
              simp only [Act.put, List.setIfInBounds_toArray, List.set_cons_zero, List.set_cons_succ]
              refine wpAnyL_done (by kernel_rfl) ?_ _
              have HIY1 := hide hS
              clear hS
              obtain ⟨ca0Y1, ca1Y1⟩ := unhide HCA Y1 (unhide HIY1)
              obtain ⟨cb0Y1, cb1Y1⟩ := unhide HCB Y1 (unhide HIY1)
              go_wp2_with fail
              refine wp_region_last (fun G => Below u.heap.size u G) 14 hmix (belowDrew (unhide HIY1)) fun hS => ?_
              have HO0 : Hid (RD.Own Y1.drew u.heap.size acc xo cc) := (unhide HOY1).below (belowDrew (Below.refl _ _))
              generalize Y1.drew = X0 at hS HO0 ⊢
              refine wpAnyL_take 0 85 (.slice xo m0 cc) [] rfl rfl (by kernel_rfl) (by kernel_rfl) (by kernel_rfl) (by kernel_rfl) (by kernel_rfl) (fun _ _ _ h => h) (by rfl) (fun _ _ => by go_simp) hS ?_
              simp only [Act.put, List.setIfInBounds_toArray, List.set_cons_zero, List.set_cons_succ]
              refine wpAnyL_take 1 86 (.slice (some ⟨g, o, none⟩) n c) [] rfl rfl (by kernel_rfl) (by kernel_rfl) (by kernel_rfl) (by kernel_rfl) (by kernel_rfl) (fun _ _ _ h => h) (by rfl) (fun _ _ => by go_simp) hS ?_
              simp only [Act.put, List.setIfInBounds_toArray, List.set_cons_zero, List.set_cons_succ]
              refine wpAnyL_take 2 87 (.int .i64 (i : Int)) [] rfl rfl (by kernel_rfl) (by kernel_rfl) (by kernel_rfl) (by kernel_rfl) (by kernel_rfl) (fun _ _ _ h => h) (by rfl) (fun _ _ => by go_simp) hS ?_
              simp only [Act.put, List.setIfInBounds_toArray, List.set_cons_zero, List.set_cons_succ]
              refine wpAnyL_take 3 88 (.pointer (some ⟨g, oo, none⟩)) [] rfl rfl (by kernel_rfl) (by kernel_rfl) (by kernel_rfl) (by kernel_rfl) (by kernel_rfl) (fun _ _ _ h => h) (by rfl) (fun _ _ => by go_simp) hS ?_
              simp only [Act.put, List.setIfInBounds_toArray, List.set_cons_zero, List.set_cons_succ]
              refine wpAnyL_take 4 89 (.pointer (some ⟨g, oo, none⟩)) [] rfl rfl (by kernel_rfl) (by kernel_rfl) (by kernel_rfl) (by kernel_rfl) (by kernel_rfl) (fun _ _ _ h => h) (by rfl) (fun _ _ => by go_simp) hS ?_
              simp only [Act.put, List.setIfInBounds_toArray, List.set_cons_zero, List.set_cons_succ]
              refine wpAnyL_take 5 90 (.string xk) [] rfl rfl (by kernel_rfl) (by kernel_rfl) (by kernel_rfl) (by kernel_rfl) (by kernel_rfl) (fun _ _ _ h => h) (by rfl) (fun G hG => by obtain ⟨e0, e1⟩ := unhide HCA G hG; go_simp) hS ?_
              simp only [Act.put, List.setIfInBounds_toArray, List.set_cons_zero, List.set_cons_succ]
              refine wpAnyL_take 6 91 (.slice (some ⟨g, o, none⟩) n c) [] rfl rfl (by kernel_rfl) (by kernel_rfl) (by kernel_rfl) (by kernel_rfl) (by kernel_rfl) (fun _ _ _ h => h) (by rfl) (fun _ _ => by go_simp) hS ?_
              simp only [Act.put, List.setIfInBounds_toArray, List.set_cons_zero, List.set_cons_succ]
              refine wpAnyL_take 7 92 (.int .i64 (i : Int)) [] rfl rfl (by kernel_rfl) (by kernel_rfl) (by kernel_rfl) (by kernel_rfl) (by kernel_rfl) (fun _ _ _ h => h) (by rfl) (fun _ _ => by go_simp) hS ?_
              simp only [Act.put, List.setIfInBounds_toArray, List.set_cons_zero, List.set_cons_succ]
              refine wpAnyL_take 8 93 (.pointer (some ⟨g, oo, none⟩)) [] rfl rfl (by kernel_rfl) (by kernel_rfl) (by kernel_rfl) (by kernel_rfl) (by kernel_rfl) (fun _ _ _ h => h) (by rfl) (fun _ _ => by go_simp) hS ?_
              simp only [Act.put, List.setIfInBounds_toArray, List.set_cons_zero, List.set_cons_succ]
              refine wpAnyL_take 9 94 (.pointer (some ⟨g, oo + 1, none⟩)) [] rfl rfl (by kernel_rfl) (by kernel_rfl) (by kernel_rfl) (by kernel_rfl) (by kernel_rfl) (fun _ _ _ h => h) (by rfl) (fun _ _ => by go_simp) hS ?_
              simp only [Act.put, List.setIfInBounds_toArray, List.set_cons_zero, List.set_cons_succ]
              refine wpAnyL_take 10 95 (.string xs) [] rfl rfl (by kernel_rfl) (by kernel_rfl) (by kernel_rfl) (by kernel_rfl) (by kernel_rfl) (fun _ _ _ h => h) (by rfl) (fun G hG => by obtain ⟨e0, e1⟩ := unhide HCA G hG; go_simp) hS ?_
              simp only [Act.put, List.setIfInBounds_toArray, List.set_cons_zero, List.set_cons_succ]
              refine wpAnyL_take 11 96 (.agg #[.string xk, .string xs, .string ⟨#[]⟩]) [] rfl rfl (by kernel_rfl) (by kernel_rfl) (by kernel_rfl) (by kernel_rfl) (by kernel_rfl) (fun _ _ _ h => h) (by rfl) (fun _ _ => by go_simp) hS ?_
              simp only [Act.put, List.setIfInBounds_toArray, List.set_cons_zero, List.set_cons_succ]
              refine wpAnyL_one (i := 12) (by kernel_rfl) rfl (by rfl) fun K hK => ?_
              refine wp_buildTo (by rfl) (.slice (some ⟨X0.heap.size, 0, none⟩) 1 1) (X0.alloc (.cells #[.string xk, .string xs, .string ⟨#[]⟩] 41)) (by simp only [List.map_toArray, List.map_cons, List.map_nil]; exact bsD X0 xk xs ⟨#[]⟩) (some 97) (by rfl) ?_
              have HI1 : Hid (Below u.heap.size u (X0.alloc (.cells #[.string xk, .string xs, .string ⟨#[]⟩] 41))) := hS.alloc hS.size _
              have HO1 : Hid (RD.Own (X0.alloc (.cells #[.string xk, .string xs, .string ⟨#[]⟩] 41)) u.heap.size acc xo cc) := (unhide HO0).below ((Below.refl _ _).alloc (Nat.le_refl _) _)
              have HA1 : Hid (RD.At (X0.alloc (.cells #[.string xk, .string xs, .string ⟨#[]⟩] 41)) [(xk, xs, ⟨#[]⟩)] (some ⟨X0.heap.size, 0, none⟩) 1) := RD.one X0 (xk, xs, ⟨#[]⟩) _
              refine hK _ _ (fun _ => unhide HI1) ?_
              clear hK K
              simp only [Act.put, List.setIfInBounds_toArray, List.set_cons_zero, List.set_cons_succ]
              generalize X0.alloc (.cells #[.string xk, .string xs, .string ⟨#[]⟩] 41) = X1 at HI1 HO1 HA1 ⊢
              refine wpAnyL_one (i := 13) (by kernel_rfl) rfl (by rfl) fun K hK => ?_
              refine wp_putD (.tmp 85) (.tmp 97) (by rfl) (some 98) (by rfl) u.heap.size acc [(xk, xs, ⟨#[]⟩)] m0 1 (unhide HML) rfl xo (some ⟨X0.heap.size, 0, none⟩) cc 1 (by with_unfolding_all rfl) (by with_unfolding_all rfl) (unhide HO1) (unhide HA1) (unhide HLL (xk, xs, ⟨#[]⟩)) (unhide HI1).size ?_
              intro x4 n4 c4 X4 HP4
              have HI4 : Hid (Below u.heap.size u X4) := (unhide HI1).trans (unhide HP4).below
              refine hK _ _ (fun _ => unhide HI4) ?_
              clear hK K
              simp only [Act.put, List.setIfInBounds_toArray, List.set_cons_zero, List.set_cons_succ]
              refine wpAnyL_one (i := 14) (by kernel_rfl) rfl (by rfl) fun K hK => ?_
              refine wp_val (.slice x4 n4 c4) (by go_simp) (some 6) (by rfl) ?_
              refine hK _ _ (fun _ => unhide HI4) ?_
              clear hK K
              simp only [Act.put, List.setIfInBounds_toArray, List.set_cons_zero, List.set_cons_succ]
              refine wpAnyL_done (by kernel_rfl) ?_ _
              go_wp2
              go_roundw
              case rel => exact ⟨i + 1, k, n4, c4, x4, acc ++ [((xk, xs, (⟨#[]⟩ : ByteArray)) : Df)], by omega, hkm, by go_num, rfl, rfl, (unhide HP4).len, unhide HN, (unhide HP4).own, unhide HI4⟩
              case measure => simp [intOf]; omega
            · rw [Bool.not_eq_true] at h1
              by_cases h2 : lt b[k].1 a[i].1 = true
              · have HN := hide (DI.r (unhide HAC) hkl (unhide HSB k hkl) (.inr ⟨hil, h2⟩))
                clear HSA HSB HAC
                unfold lt at h1 h2
                generalize a[i] = x at *
                obtain ⟨xk, xs⟩ := x
                have HCA : Hid (∀ G : World, Below u.heap.size u G → G.cell? ⟨g, o + i * 2, none⟩ = some (.string xk) ∧ G.cell? ⟨g, o + i * 2 + 1, none⟩ = some (.string xs)) := HCA
                generalize o + i * 2 = oo at *
                obtain ⟨ca0, ca1⟩ := unhide HCA wr (unhide HI)
                generalize b[k] = y at *
                obtain ⟨yk, ys⟩ := y
                have HCB : Hid (∀ G : World, Below u.heap.size u G → G.cell? ⟨g2, o2 + k * 2, none⟩ = some (.string yk) ∧ G.cell? ⟨g2, o2 + k * 2 + 1, none⟩ = some (.string ys)) := HCB
                generalize o2 + k * 2 = op at *
                obtain ⟨cb0, cb1⟩ := unhide HCB wr (unhide HI)
                have h1 : Op.bytesLess xk.toList yk.toList = false := h1
                have h2 : Op.bytesLess yk.toList xk.toList = true := h2
                have HN : Hid ((acc ++ [(yk, ⟨#[]⟩, ys)]) ++ difs (mgE (a.drop i) (b.drop (k + 1))) = dl) := HN
                go_wp2_with fail
                refine wp_region_last (fun G => Below u.heap.size u G) 23 hmix (belowDrew (unhide HI)) fun hS => ?_
                have HOY1 : Hid (RD.Own wr.drew u.heap.size acc xo cc) := (unhide HO).below (belowDrew (Below.refl _ _))
                generalize wr.drew = Y1 at hS HOY1 ⊢
                refine wpAnyL_take 0 62 (.int .i64 (k : Int)) [3, 4, 9] rfl rfl (by kernel_rfl) (by kernel_rfl) (by kernel_rfl) (by kernel_rfl) (by kernel_rfl) (fun _ _ _ h => h) (by rfl) (fun _ _ => by go_simp) hS ?_
                simp only [Act.put, List.setIfInBounds_toArray, List.set_cons_zero, List.set_cons_succ]
                refine wpAnyL_take 1 63 (.slice (some ⟨g2, o2, none⟩) m d) [2, 3, 4, 9] rfl rfl (by kernel_rfl) (by kernel_rfl) (by kernel_rfl) (by kernel_rfl) (by kernel_rfl) (fun _ _ _ h => h) (by rfl) (fun _ _ => by go_simp) hS ?_
                simp only [Act.put, List.setIfInBounds_toArray, List.set_cons_zero, List.set_cons_succ]
                refine wpAnyL_take 2 64 (.int .i64 (m : Int)) [3, 4, 9] rfl rfl (by kernel_rfl) (by kernel_rfl) (by kernel_rfl) (by kernel_rfl) (by kernel_rfl) (fun _ _ _ h => h) (by rfl) (fun _ _ => by go_simp) hS ?_
                simp only [Act.put, List.setIfInBounds_toArray, List.set_cons_zero, List.set_cons_succ]
                refine wpAnyL_take 3 65 (.bool false) [4, 9] rfl rfl (by kernel_rfl) (by kernel_rfl) (by kernel_rfl) (by kernel_rfl) (by kernel_rfl) (fun _ _ _ h => h) (by rfl) (fun _ _ => by go_simp) hS ?_
                simp only [Act.put, List.setIfInBounds_toArray, List.set_cons_zero, List.set_cons_succ]
                refine wpAnyL_take 4 66 (.bool false) [9] rfl rfl (by kernel_rfl) (by kernel_rfl) (by kernel_rfl) (by kernel_rfl) (by kernel_rfl) (fun _ _ _ h => h) (by rfl) (fun _ _ => by go_simp) hS ?_
                simp only [Act.put, List.setIfInBounds_toArray, List.set_cons_zero, List.set_cons_succ]
                refine wpAnyL_take 5 67 (.int .i64 (i : Int)) [8, 9] rfl rfl (by kernel_rfl) (by kernel_rfl) (by kernel_rfl) (by kernel_rfl) (by kernel_rfl) (fun _ _ _ h => h) (by rfl) (fun _ _ => by go_simp) hS ?_
                simp only [Act.put, List.setIfInBounds_toArray, List.set_cons_zero, List.set_cons_succ]
                refine wpAnyL_take 6 68 (.slice (some ⟨g, o, none⟩) n c) [7, 8, 9] rfl rfl (by kernel_rfl) (by kernel_rfl) (by kernel_rfl) (by kernel_rfl) (by kernel_rfl) (fun _ _ _ h => h) (by rfl) (fun _ _ => by go_simp) hS ?_
                simp only [Act.put, List.setIfInBounds_toArray, List.set_cons_zero, List.set_cons_succ]
                refine wpAnyL_take 7 69 (.int .i64 (n : Int)) [8, 9] rfl rfl (by kernel_rfl) (by kernel_rfl) (by kernel_rfl) (by kernel_rfl) (by kernel_rfl) (fun _ _ _ h => h) (by rfl) (fun _ _ => by go_simp) hS ?_
                simp only [Act.put, List.setIfInBounds_toArray, List.set_cons_zero, List.set_cons_succ]
                refine wpAnyL_take 8 70 (.bool true) [9] rfl rfl (by kernel_rfl) (by kernel_rfl) (by kernel_rfl) (by kernel_rfl) (by kernel_rfl) (fun _ _ _ h => h) (by rfl) (fun _ _ => by go_simp) hS ?_
                simp only [Act.put, List.setIfInBounds_toArray, List.set_cons_zero, List.set_cons_succ]
                refine wpAnyL_take 9 71 (.bool true) [] rfl rfl (by kernel_rfl) (by kernel_rfl) (by kernel_rfl) (by kernel_rfl) (by kernel_rfl) (fun _ _ _ h => h) (by rfl) (fun _ _ => by go_simp) hS ?_
                simp only [Act.put, List.setIfInBounds_toArray, List.set_cons_zero, List.set_cons_succ]
                refine wpAnyL_take 10 72 (.slice (some ⟨g, o, none⟩) n c) [12, 13, 14, 20, 21, 22] rfl rfl (by kernel_rfl) (by kernel_rfl) (by kernel_rfl) (by kernel_rfl) (by kernel_rfl) (fun _ _ _ h => h) (by rfl) (fun _ _ => by go_simp) hS ?_
                simp only [Act.put, List.setIfInBounds_toArray, List.set_cons_zero, List.set_cons_succ]
                refine wpAnyL_take 11 73 (.int .i64 (i : Int)) [12, 13, 14, 20, 21, 22] rfl rfl (by kernel_rfl) (by kernel_rfl) (by kernel_rfl) (by kernel_rfl) (by kernel_rfl) (fun _ _ _ h => h) (by rfl) (fun _ _ => by go_simp) hS ?_
                simp only [Act.put, List.setIfInBounds_toArray, List.set_cons_zero, List.set_cons_succ]
                refine wpAnyL_take 12 74 (.pointer (some ⟨g, oo, none⟩)) [13, 14, 20, 21, 22] rfl rfl (by kernel_rfl) (by kernel_rfl) (by kernel_rfl) (by kernel_rfl) (by kernel_rfl) (fun _ _ _ h => h) (by rfl) (fun _ _ => by go_simp) hS ?_
                simp only [Act.put, List.setIfInBounds_toArray, List.set_cons_zero, List.set_cons_succ]
                refine wpAnyL_take 13 75 (.pointer (some ⟨g, oo, none⟩)) [14, 20, 21, 22] rfl rfl (by kernel_rfl) (by kernel_rfl) (by kernel_rfl) (by kernel_rfl) (by kernel_rfl) (fun _ _ _ h => h) (by rfl) (fun _ _ => by go_simp) hS ?_
                simp only [Act.put, List.setIfInBounds_toArray, List.set_cons_zero, List.set_cons_succ]
                refine wpAnyL_take 14 76 (.string xk) [20, 21, 22] rfl rfl (by kernel_rfl) (by kernel_rfl) (by kernel_rfl) (by kernel_rfl) (by kernel_rfl) (fun _ _ _ h => h) (by rfl) (fun G hG => by obtain ⟨e0, e1⟩ := unhide HCA G hG; go_simp) hS ?_
                simp only [Act.put, List.setIfInBounds_toArray, List.set_cons_zero, List.set_cons_succ]
                refine wpAnyL_take 15 77 (.slice (some ⟨g2, o2, none⟩) m d) [17, 18, 19, 20, 21, 22] rfl rfl (by kernel_rfl) (by kernel_rfl) (by kernel_rfl) (by kernel_rfl) (by kernel_rfl) (fun _ _ _ h => h) (by rfl) (fun _ _ => by go_simp) hS ?_
                simp only [Act.put, List.setIfInBounds_toArray, List.set_cons_zero, List.set_cons_succ]
                refine wpAnyL_take 16 78 (.int .i64 (k : Int)) [17, 18, 19, 20, 21, 22] rfl rfl (by kernel_rfl) (by kernel_rfl) (by kernel_rfl) (by kernel_rfl) (by kernel_rfl) (fun _ _ _ h => h) (by rfl) (fun _ _ => by go_simp) hS ?_
                simp only [Act.put, List.setIfInBounds_toArray, List.set_cons_zero, List.set_cons_succ]
                refine wpAnyL_take 17 79 (.pointer (some ⟨g2, op, none⟩)) [18, 19, 20, 21, 22] rfl rfl (by kernel_rfl) (by kernel_rfl) (by kernel_rfl) (by kernel_rfl) (by kernel_rfl) (fun _ _ _ h => h) (by rfl) (fun _ _ => by go_simp) hS ?_
                simp only [Act.put, List.setIfInBounds_toArray, List.set_cons_zero, List.set_cons_succ]
                refine wpAnyL_take 18 80 (.pointer (some ⟨g2, op, none⟩)) [19, 20, 21, 22] rfl rfl (by kernel_rfl) (by kernel_rfl) (by kernel_rfl) (by kernel_rfl) (by kernel_rfl) (fun _ _ _ h => h) (by rfl) (fun _ _ => by go_simp) hS ?_
                simp only [Act.put, List.setIfInBounds_toArray, List.set_cons_zero, List.set_cons_succ]
                refine wpAnyL_take 19 81 (.string yk) [20, 21, 22] rfl rfl (by kernel_rfl) (by kernel_rfl) (by kernel_rfl) (by kernel_rfl) (by kernel_rfl) (fun _ _ _ h => h) (by rfl) (fun G hG => by obtain ⟨e0, e1⟩ := unhide HCB G hG; go_simp) hS ?_
                simp only [Act.put, List.setIfInBounds_toArray, List.set_cons_zero, List.set_cons_succ]
                refine wpAnyL_take 20 82 (.bool false) [21, 22] rfl rfl (by kernel_rfl) (by kernel_rfl) (by kernel_rfl) (by kernel_rfl) (by kernel_rfl) (fun _ _ _ h => h) (by rfl) (fun _ _ => by go_simp) hS ?_
                simp only [Act.put, List.setIfInBounds_toArray, List.set_cons_zero, List.set_cons_succ]
                refine wpAnyL_take 21 83 (.bool false) [22] rfl rfl (by kernel_rfl) (by kernel_rfl) (by kernel_rfl) (by kernel_rfl) (by kernel_rfl) (fun _ _ _ h => h) (by rfl) (fun _ _ => by go_simp) hS ?_
                simp only [Act.put, List.setIfInBounds_toArray, List.set_cons_zero, List.set_cons_succ]
                refine wpAnyL_take 22 84 (.bool false) [] rfl rfl (by kernel_rfl) (by kernel_rfl) (by kernel_rfl) (by kernel_rfl) (by kernel_rfl) (fun _ _ _ h => h) (by rfl) (fun _ _ => by go_simp) hS ?_
                simp only [Act.put, List.setIfInBounds_toArray, List.set_cons_zero, List.set_cons_succ]
                refine wpAnyL_one (i := 23) (by kernel_rfl) rfl (by rfl) fun K hK => ?_
                refine wp_val (.bool false) (by go_simp) (some 61) (by rfl) ?_
                refine hK _ _ (fun _ => hS) ?_
                clear hK K
                simp only [Act.put, List.setIfInBounds_toArray, List.set_cons_zero, List.set_cons_succ]
                refine wpAnyL_done (by kernel_rfl) ?_ _
                have HIY1 := hide hS
                clear hS
                obtain ⟨ca0Y1, ca1Y1⟩ := unhide HCA Y1 (unhide HIY1)
                obtain ⟨cb0Y1, cb1Y1⟩ := unhide HCB Y1 (unhide HIY1)
                go_wp2_with fail
                refine wp_region_last (fun G => Below u.heap.size u G) 17 hmix (belowDrew (unhide HIY1)) fun hS => ?_
                have HOY2 : Hid (RD.Own Y1.drew u.heap.size acc xo cc) := (unhide HOY1).below (belowDrew (Below.refl _ _))
                generalize Y1.drew = Y2 at hS HOY2 ⊢
                refine wpAnyL_take 0 102 (.int .i64 (i : Int)) [3, 4] rfl rfl (by kernel_rfl) (by kernel_rfl) (by kernel_rfl) (by kernel_rfl) (by kernel_rfl) (fun _ _ _ h => h) (by rfl) (fun _ _ => by go_simp) hS ?_
                simp only [Act.put, List.setIfInBounds_toArray, List.set_cons_zero, List.set_cons_succ]
                refine wpAnyL_take 1 103 (.slice (some ⟨g, o, none⟩) n c) [2, 3, 4] rfl rfl (by kernel_rfl) (by kernel_rfl) (by kernel_rfl) (by kernel_rfl) (by kernel_rfl) (fun _ _ _ h => h) (by rfl) (fun _ _ => by go_simp) hS ?_
                simp only [Act.put, List.setIfInBounds_toArray, List.set_cons_zero, List.set_cons_succ]
                refine wpAnyL_take 2 104 (.int .i64 (n : Int)) [3, 4] rfl rfl (by kernel_rfl) (by kernel_rfl) (by kernel_rfl) (by kernel_rfl) (by kernel_rfl) (fun _ _ _ h => h) (by rfl) (fun _ _ => by go_simp) hS ?_
                simp only [Act.put, List.setIfInBounds_toArray, List.set_cons_zero, List.set_cons_succ]
                refine wpAnyL_take 3 105 (.bool false) [4] rfl rfl (by kernel_rfl) (by kernel_rfl) (by kernel_rfl) (by kernel_rfl) (by kernel_rfl) (fun _ _ _ h => h) (by rfl) (fun _ _ => by go_simp) hS ?_
                simp only [Act.put, List.setIfInBounds_toArray, List.set_cons_zero, List.set_cons_succ]
                refine wpAnyL_take 4 106 (.bool false) [] rfl rfl (by kernel_rfl) (by kernel_rfl) (by kernel_rfl) (by kernel_rfl) (by kernel_rfl) (fun _ _ _ h => h) (by rfl) (fun _ _ => by go_simp) hS ?_
                simp only [Act.put, List.setIfInBounds_toArray, List.set_cons_zero, List.set_cons_succ]
                refine wpAnyL_take 5 107 (.slice (some ⟨g2, o2, none⟩) m d) [7, 8, 9, 15, 16] rfl rfl (by kernel_rfl) (by kernel_rfl) (by kernel_rfl) (by kernel_rfl) (by kernel_rfl) (fun _ _ _ h => h) (by rfl) (fun _ _ => by go_simp) hS ?_
                simp only [Act.put, List.setIfInBounds_toArray, List.set_cons_zero, List.set_cons_succ]
                refine wpAnyL_take 6 108 (.int .i64 (k : Int)) [7, 8, 9, 15, 16] rfl rfl (by kernel_rfl) (by kernel_rfl) (by kernel_rfl) (by kernel_rfl) (by kernel_rfl) (fun _ _ _ h => h) (by rfl) (fun _ _ => by go_simp) hS ?_
                simp only [Act.put, List.setIfInBounds_toArray, List.set_cons_zero, List.set_cons_succ]
                refine wpAnyL_take 7 109 (.pointer (some ⟨g2, op, none⟩)) [8, 9, 15, 16] rfl rfl (by kernel_rfl) (by kernel_rfl) (by kernel_rfl) (by kernel_rfl) (by kernel_rfl) (fun _ _ _ h => h) (by rfl) (fun _ _ => by go_simp) hS ?_
                simp only [Act.put, List.setIfInBounds_toArray, List.set_cons_zero, List.set_cons_succ]
                refine wpAnyL_take 8 110 (.pointer (some ⟨g2, op, none⟩)) [9, 15, 16] rfl rfl (by kernel_rfl) (by kernel_rfl) (by kernel_rfl) (by kernel_rfl) (by kernel_rfl) (fun _ _ _ h => h) (by rfl) (fun _ _ => by go_simp) hS ?_
                simp only [Act.put, List.setIfInBounds_toArray, List.set_cons_zero, List.set_cons_succ]
                refine wpAnyL_take 9 111 (.string yk) [15, 16] rfl rfl (by kernel_rfl) (by kernel_rfl) (by kernel_rfl) (by kernel_rfl) (by kernel_rfl) (fun _ _ _ h => h) (by rfl) (fun G hG => by obtain ⟨e0, e1⟩ := unhide HCB G hG; go_simp) hS ?_
                simp only [Act.put, List.setIfInBounds_toArray, List.set_cons_zero, List.set_cons_succ]
                refine wpAnyL_take 10 112 (.slice (some ⟨g, o, none⟩) n c) [12, 13, 14, 15, 16] rfl rfl (by kernel_rfl) (by kernel_rfl) (by kernel_rfl) (by kernel_rfl) (by kernel_rfl) (fun _ _ _ h => h) (by rfl) (fun _ _ => by go_simp) hS ?_
                simp only [Act.put, List.setIfInBounds_toArray, List.set_cons_zero, List.set_cons_succ]
                refine wpAnyL_take 11 113 (.int .i64 (i : Int)) [12, 13, 14, 15, 16] rfl rfl (by kernel_rfl) (by kernel_rfl) (by kernel_rfl) (by kernel_rfl) (by kernel_rfl) (fun _ _ _ h => h) (by rfl) (fun _ _ => by go_simp) hS ?_
                simp only [Act.put, List.setIfInBounds_toArray, List.set_cons_zero, List.set_cons_succ]
                refine wpAnyL_take 12 114 (.pointer (some ⟨g, oo, none⟩)) [13, 14, 15, 16] rfl rfl (by kernel_rfl) (by kernel_rfl) (by kernel_rfl) (by kernel_rfl) (by kernel_rfl) (fun _ _ _ h => h) (by rfl) (fun _ _ => by go_simp) hS ?_
                simp only [Act.put, List.setIfInBounds_toArray, List.set_cons_zero, List.set_cons_succ]
                refine wpAnyL_take 13 115 (.pointer (some ⟨g, oo, none⟩)) [14, 15, 16] rfl rfl (by kernel_rfl) (by kernel_rfl) (by kernel_rfl) (by kernel_rfl) (by kernel_rfl) (fun _ _ _ h => h) (by rfl) (fun _ _ => by go_simp) hS ?_
                simp only [Act.put, List.setIfInBounds_toArray, List.set_cons_zero, List.set_cons_succ]
                refine wpAnyL_take 14 116 (.string xk) [15, 16] rfl rfl (by kernel_rfl) (by kernel_rfl) (by kernel_rfl) (by kernel_rfl) (by kernel_rfl) (fun _ _ _ h => h) (by rfl) (fun G hG => by obtain ⟨e0, e1⟩ := unhide HCA G hG; go_simp) hS ?_
                simp only [Act.put, List.setIfInBounds_toArray, List.set_cons_zero, List.set_cons_succ]
                refine wpAnyL_take 15 117 (.bool true) [16] rfl rfl (by kernel_rfl) (by kernel_rfl) (by kernel_rfl) (by kernel_rfl) (by kernel_rfl) (fun _ _ _ h => h) (by rfl) (fun _ _ => by go_simp) hS ?_
                simp only [Act.put, List.setIfInBounds_toArray, List.set_cons_zero, List.set_cons_succ]
                refine wpAnyL_take 16 118 (.bool true) [] rfl rfl (by kernel_rfl) (by kernel_rfl) (by kernel_rfl) (by kernel_rfl) (by kernel_rfl) (fun _ _ _ h => h) (by rfl) (fun _ _ => by go_simp) hS ?_
                simp only [Act.put, List.setIfInBounds_toArray, List.set_cons_zero, List.set_cons_succ]
                refine wpAnyL_one (i := 17) (by kernel_rfl) rfl (by rfl) fun K hK => ?_
                refine wp_val (.bool true) (by go_simp) (some 101) (by rfl) ?_
                refine hK _ _ (fun _ => hS) ?_
                clear hK K
                simp only [Act.put, List.setIfInBounds_toArray, List.set_cons_zero, List.set_cons_succ]
                refine wpAnyL_done (by kernel_rfl) ?_ _
                have HIY2 := hide hS
                clear hS
                obtain ⟨ca0Y2, ca1Y2⟩ := unhide HCA Y2 (unhide HIY2)
                obtain ⟨cb0Y2, cb1Y2⟩ := unhide HCB Y2 (unhide HIY2)
                go_wp2_with fail
                refine wp_region_last (fun G => Below u.heap.size u G) 14 hmix (belowDrew (unhide HIY2)) fun hS => ?_
                have HO0 : Hid (RD.Own Y2.drew u.heap.size acc xo cc) := (unhide HOY2).below (belowDrew (Below.refl _ _))
                generalize Y2.drew = X0 at hS HO0 ⊢
                refine wpAnyL_take 0 119 (.slice xo m0 cc) [] rfl rfl (by kernel_rfl) (by kernel_rfl) (by kernel_rfl) (by kernel_rfl) (by kernel_rfl) (fun _ _ _ h => h) (by rfl) (fun _ _ => by go_simp) hS ?_
                simp only [Act.put, List.setIfInBounds_toArray, List.set_cons_zero, List.set_cons_succ]
                refine wpAnyL_take 1 120 (.slice (some ⟨g2, o2, none⟩) m d) [] rfl rfl (by kernel_rfl) (by kernel_rfl) (by kernel_rfl) (by kernel_rfl) (by kernel_rfl) (fun _ _ _ h => h) (by rfl) (fun _ _ => by go_simp) hS ?_
                simp only [Act.put, List.setIfInBounds_toArray, List.set_cons_zero, List.set_cons_succ]
                refine wpAnyL_take 2 121 (.int .i64 (k : Int)) [] rfl rfl (by kernel_rfl) (by kernel_rfl) (by kernel_rfl) (by kernel_rfl) (by kernel_rfl) (fun _ _ _ h => h) (by rfl) (fun _ _ => by go_simp) hS ?_
                simp only [Act.put, List.setIfInBounds_toArray, List.set_cons_zero, List.set_cons_succ]
                refine wpAnyL_take 3 122 (.pointer (some ⟨g2, op, none⟩)) [] rfl rfl (by kernel_rfl) (by kernel_rfl) (by kernel_rfl) (by kernel_rfl) (by kernel_rfl) (fun _ _ _ h => h) (by rfl) (fun _ _ => by go_simp) hS ?_
                simp only [Act.put, List.setIfInBounds_toArray, List.set_cons_zero, List.set_cons_succ]
                refine wpAnyL_take 4 123 (.pointer (some ⟨g2, op, none⟩)) [] rfl rfl (by kernel_rfl) (by kernel_rfl) (by kernel_rfl) (by kernel_rfl) (by kernel_rfl) (fun _ _ _ h => h) (by rfl) (fun _ _ => by go_simp) hS ?_
                simp only [Act.put, List.setIfInBounds_toArray, List.set_cons_zero, List.set_cons_succ]
                refine wpAnyL_take 5 124 (.string yk) [] rfl rfl (by kernel_rfl) (by kernel_rfl) (by kernel_rfl) (by kernel_rfl) (by kernel_rfl) (fun _ _ _ h => h) (by rfl) (fun G hG => by obtain ⟨e0, e1⟩ := unhide HCB G hG; go_simp) hS ?_
                simp only [Act.put, List.setIfInBounds_toArray, List.set_cons_zero, List.set_cons_succ]
                refine wpAnyL_take 6 125 (.slice (some ⟨g2, o2, none⟩) m d) [] rfl rfl (by kernel_rfl) (by kernel_rfl) (by kernel_rfl) (by kernel_rfl) (by kernel_rfl) (fun _ _ _ h => h) (by rfl) (fun _ _ => by go_simp) hS ?_
                simp only [Act.put, List.setIfInBounds_toArray, List.set_cons_zero, List.set_cons_succ]
                refine wpAnyL_take 7 126 (.int .i64 (k : Int)) [] rfl rfl (by kernel_rfl) (by kernel_rfl) (by kernel_rfl) (by kernel_rfl) (by kernel_rfl) (fun _ _ _ h => h) (by rfl) (fun _ _ => by go_simp) hS ?_
                simp only [Act.put, List.setIfInBounds_toArray, List.set_cons_zero, List.set_cons_succ]
                refine wpAnyL_take 8 127 (.pointer (some ⟨g2, op, none⟩)) [] rfl rfl (by kernel_rfl) (by kernel_rfl) (by kernel_rfl) (by kernel_rfl) (by kernel_rfl) (fun _ _ _ h => h) (by rfl) (fun _ _ => by go_simp) hS ?_
                simp only [Act.put, List.setIfInBounds_toArray, List.set_cons_zero, List.set_cons_succ]
                refine wpAnyL_take 9 128 (.pointer (some ⟨g2, op + 1, none⟩)) [] rfl rfl (by kernel_rfl) (by kernel_rfl) (by kernel_rfl) (by kernel_rfl) (by kernel_rfl) (fun _ _ _ h => h) (by rfl) (fun _ _ => by go_simp) hS ?_
                simp only [Act.put, List.setIfInBounds_toArray, List.set_cons_zero, List.set_cons_succ]
                refine wpAnyL_take 10 129 (.string ys) [] rfl rfl (by kernel_rfl) (by kernel_rfl) (by kernel_rfl) (by kernel_rfl) (by kernel_rfl) (fun _ _ _ h => h) (by rfl) (fun G hG => by obtain ⟨e0, e1⟩ := unhide HCB G hG; go_simp) hS ?_
                simp only [Act.put, List.setIfInBounds_toArray, List.set_cons_zero, List.set_cons_succ]
                refine wpAnyL_take 11 130 (.agg #[.string yk, .string ⟨#[]⟩, .string ys]) [] rfl rfl (by kernel_rfl) (by kernel_rfl) (by kernel_rfl) (by kernel_rfl) (by kernel_rfl) (fun _ _ _ h => h) (by rfl) (fun _ _ => by go_simp) hS ?_
                simp only [Act.put, List.setIfInBounds_toArray, List.set_cons_zero, List.set_cons_succ]
                refine wpAnyL_one (i := 12) (by kernel_rfl) rfl (by rfl) fun K hK => ?_
                refine wp_buildTo (by rfl) (.slice (some ⟨X0.heap.size, 0, none⟩) 1 1) (X0.alloc (.cells #[.string yk, .string ⟨#[]⟩, .string ys] 41)) (by simp only [List.map_toArray, List.map_cons, List.map_nil]; exact bsD X0 yk ⟨#[]⟩ ys) (some 131) (by rfl) ?_
                have HI1 : Hid (Below u.heap.size u (X0.alloc (.cells #[.string yk, .string ⟨#[]⟩, .string ys] 41))) := hS.alloc hS.size _
                have HO1 : Hid (RD.Own (X0.alloc (.cells #[.string yk, .string ⟨#[]⟩, .string ys] 41)) u.heap.size acc xo cc) := (unhide HO0).below ((Below.refl _ _).alloc (Nat.le_refl _) _)
                have HA1 : Hid (RD.At (X0.alloc (.cells #[.string yk, .string ⟨#[]⟩, .string ys] 41)) [(yk, ⟨#[]⟩, ys)] (some ⟨X0.heap.size, 0, none⟩) 1) := RD.one X0 (yk, ⟨#[]⟩, ys) _
                refine hK _ _ (fun _ => unhide HI1) ?_
                clear hK K
                simp only [Act.put, List.setIfInBounds_toArray, List.set_cons_zero, List.set_cons_succ]
                generalize X0.alloc (.cells #[.string yk, .string ⟨#[]⟩, .string ys] 41) = X1 at HI1 HO1 HA1 ⊢
                refine wpAnyL_one (i := 13) (by kernel_rfl) rfl (by rfl) fun K hK => ?_
                refine wp_putD (.tmp 119) (.tmp 131) (by rfl) (some 132) (by rfl) u.heap.size acc [(yk, ⟨#[]⟩, ys)] m0 1 (unhide HML) rfl xo (some ⟨X0.heap.size, 0, none⟩) cc 1 (by with_unfolding_all rfl) (by with_unfolding_all rfl) (unhide HO1) (unhide HA1) (unhide HLL (yk, ⟨#[]⟩, ys)) (unhide HI1).size ?_
                intro x4 n4 c4 X4 HP4
                have HI4 : Hid (Below u.heap.size u X4) := (unhide HI1).trans (unhide HP4).below
                refine hK _ _ (fun _ => unhide HI4) ?_
                clear hK K
                simp only [Act.put, List.setIfInBounds_toArray, List.set_cons_zero, List.set_cons_succ]
                refine wpAnyL_one (i := 14) (by kernel_rfl) rfl (by rfl) fun K hK => ?_
                refine wp_val (.slice x4 n4 c4) (by go_simp) (some 6) (by rfl) ?_
                refine hK _ _ (fun _ => unhide HI4) ?_
                clear hK K
                simp only [Act.put, List.setIfInBounds_toArray, List.set_cons_zero, List.set_cons_succ]
                refine wpAnyL_done (by kernel_rfl) ?_ _
                go_wp2
                go_roundw
                case rel => exact ⟨i, k + 1, n4, c4, x4, acc ++ [((yk, (⟨#[]⟩ : ByteArray), ys) : Df)], hin, by omega, rfl, by go_num, rfl, (unhide HP4).len, unhide HN, (unhide HP4).own, unhide HI4⟩
                case measure => simp [intOf]; omega
              · rw [Bool.not_eq_true] at h2
                have he := lt_total h1 h2
                by_cases hs : a[i].2 = b[k].2
                · have HN := hide (DI.e (unhide HAC) hil hkl he hs)
                  clear HSA HSB HAC
                  unfold lt at h1 h2
                  generalize a[i] = x at *
                  obtain ⟨xk, xs⟩ := x
                  have HCA : Hid (∀ G : World, Below u.heap.size u G → G.cell? ⟨g, o + i * 2, none⟩ = some (.string xk) ∧ G.cell? ⟨g, o + i * 2 + 1, none⟩ = some (.string xs)) := HCA
                  generalize o + i * 2 = oo at *
                  obtain ⟨ca0, ca1⟩ := unhide HCA wr (unhide HI)
                  generalize b[k] = y at *
                  obtain ⟨yk, ys⟩ := y
                  have HCB : Hid (∀ G : World, Below u.heap.size u G → G.cell? ⟨g2, o2 + k * 2, none⟩ = some (.string yk) ∧ G.cell? ⟨g2, o2 + k * 2 + 1, none⟩ = some (.string ys)) := HCB
                  generalize o2 + k * 2 = op at *
                  obtain ⟨cb0, cb1⟩ := unhide HCB wr (unhide HI)
                  have h1 : Op.bytesLess xk.toList yk.toList = false := h1
                  have h2 : Op.bytesLess yk.toList xk.toList = false := h2
                  have hs : xs = ys := hs
                  have hq : (xs.toList != ys.toList) = false := by rw [hs]; simp
                  have hq2 : xs.toList = ys.toList := by rw [hs]
                  have HN : Hid (acc ++ difs (mgE (a.drop (i + 1)) (b.drop (k + 1))) = dl) := HN
                  clear he hs
                  go_wp2_with fail
                  refine wp_region_last (fun G => Below u.heap.size u G) 23 hmix (belowDrew (unhide HI)) fun hS => ?_
                  have HOY1 : Hid (RD.Own wr.drew u.heap.size acc xo cc) := (unhide HO).below (belowDrew (Below.refl _ _))
                  generalize wr.drew = Y1 at hS HOY1 ⊢
                  refine wpAnyL_take 0 62 (.int .i64 (k : Int)) [3, 4, 9] rfl rfl (by kernel_rfl) (by kernel_rfl) (by kernel_rfl) (by kernel_rfl) (by kernel_rfl) (fun _ _ _ h => h) (by rfl) (fun _ _ => by go_simp) hS ?_
                  simp only [Act.put, List.setIfInBounds_toArray, List.set_cons_zero, List.set_cons_succ]
                  refine wpAnyL_take 1 63 (.slice (some ⟨g2, o2, none⟩) m d) [2, 3, 4, 9] rfl rfl (by kernel_rfl) (by kernel_rfl) (by kernel_rfl) (by kernel_rfl) (by kernel_rfl) (fun _ _ _ h => h) (by rfl) (fun _ _ => by go_simp) hS ?_
                  simp only [Act.put, List.setIfInBounds_toArray, List.set_cons_zero, List.set_cons_succ]
                  refine wpAnyL_take 2 64 (.int .i64 (m : Int)) [3, 4, 9] rfl rfl (by kernel_rfl) (by kernel_rfl) (by kernel_rfl) (by kernel_rfl) (by kernel_rfl) (fun _ _ _ h => h) (by rfl) (fun _ _ => by go_simp) hS ?_
                  simp only [Act.put, List.setIfInBounds_toArray, List.set_cons_zero, List.set_cons_succ]
                  refine wpAnyL_take 3 65 (.bool false) [4, 9] rfl rfl (by kernel_rfl) (by kernel_rfl) (by kernel_rfl) (by kernel_rfl) (by kernel_rfl) (fun _ _ _ h => h) (by rfl) (fun _ _ => by go_simp) hS ?_
                  simp only [Act.put, List.setIfInBounds_toArray, List.set_cons_zero, List.set_cons_succ]
                  refine wpAnyL_take 4 66 (.bool false) [9] rfl rfl (by kernel_rfl) (by kernel_rfl) (by kernel_rfl) (by kernel_rfl) (by kernel_rfl) (fun _ _ _ h => h) (by rfl) (fun _ _ => by go_simp) hS ?_
                  simp only [Act.put, List.setIfInBounds_toArray, List.set_cons_zero, List.set_cons_succ]
                  refine wpAnyL_take 5 67 (.int .i64 (i : Int)) [8, 9] rfl rfl (by kernel_rfl) (by kernel_rfl) (by kernel_rfl) (by kernel_rfl) (by kernel_rfl) (fun _ _ _ h => h) (by rfl) (fun _ _ => by go_simp) hS ?_
                  simp only [Act.put, List.setIfInBounds_toArray, List.set_cons_zero, List.set_cons_succ]
                  refine wpAnyL_take 6 68 (.slice (some ⟨g, o, none⟩) n c) [7, 8, 9] rfl rfl (by kernel_rfl) (by kernel_rfl) (by kernel_rfl) (by kernel_rfl) (by kernel_rfl) (fun _ _ _ h => h) (by rfl) (fun _ _ => by go_simp) hS ?_
                  simp only [Act.put, List.setIfInBounds_toArray, List.set_cons_zero, List.set_cons_succ]
                  refine wpAnyL_take 7 69 (.int .i64 (n : Int)) [8, 9] rfl rfl (by kernel_rfl) (by kernel_rfl) (by kernel_rfl) (by kernel_rfl) (by kernel_rfl) (fun _ _ _ h => h) (by rfl) (fun _ _ => by go_simp) hS ?_
                  simp only [Act.put, List.setIfInBounds_toArray, List.set_cons_zero, List.set_cons_succ]
                  refine wpAnyL_take 8 70 (.bool true) [9] rfl rfl (by kernel_rfl) (by kernel_rfl) (by kernel_rfl) (by kernel_rfl) (by kernel_rfl) (fun _ _ _ h => h) (by rfl) (fun _ _ => by go_simp) hS ?_
                  simp only [Act.put, List.setIfInBounds_toArray, List.set_cons_zero, List.set_cons_succ]
                  refine wpAnyL_take 9 71 (.bool true) [] rfl rfl (by kernel_rfl) (by kernel_rfl) (by kernel_rfl) (by kernel_rfl) (by kernel_rfl) (fun _ _ _ h => h) (by rfl) (fun _ _ => by go_simp) hS ?_
                  simp only [Act.put, List.setIfInBounds_toArray, List.set_cons_zero, List.set_cons_succ]
                  refine wpAnyL_take 10 72 (.slice (some ⟨g, o, none⟩) n c) [12, 13, 14, 20, 21, 22] rfl rfl (by kernel_rfl) (by kernel_rfl) (by kernel_rfl) (by kernel_rfl) (by kernel_rfl) (fun _ _ _ h => h) (by rfl) (fun _ _ => by go_simp) hS ?_
                  simp only [Act.put, List.setIfInBounds_toArray, List.set_cons_zero, List.set_cons_succ]
                  refine wpAnyL_take 11 73 (.int .i64 (i : Int)) [12, 13, 14, 20, 21, 22] rfl rfl (by kernel_rfl) (by kernel_rfl) (by kernel_rfl) (by kernel_rfl) (by kernel_rfl) (fun _ _ _ h => h) (by rfl) (fun _ _ => by go_simp) hS ?_
                  simp only [Act.put, List.setIfInBounds_toArray, List.set_cons_zero, List.set_cons_succ]
                  refine wpAnyL_take 12 74 (.pointer (some ⟨g, oo, none⟩)) [13, 14, 20, 21, 22] rfl rfl (by kernel_rfl) (by kernel_rfl) (by kernel_rfl) (by kernel_rfl) (by kernel_rfl) (fun _ _ _ h => h) (by rfl) (fun _ _ => by go_simp) hS ?_
                  simp only [Act.put, List.setIfInBounds_toArray, List.set_cons_zero, List.set_cons_succ]
                  refine wpAnyL_take 13 75 (.pointer (some ⟨g, oo, none⟩)) [14, 20, 21, 22] rfl rfl (by kernel_rfl) (by kernel_rfl) (by kernel_rfl) (by kernel_rfl) (by kernel_rfl) (fun _ _ _ h => h) (by rfl) (fun _ _ => by go_simp) hS ?_
                  simp only [Act.put, List.setIfInBounds_toArray, List.set_cons_zero, List.set_cons_succ]
                  refine wpAnyL_take 14 76 (.string xk) [20, 21, 22] rfl rfl (by kernel_rfl) (by kernel_rfl) (by kernel_rfl) (by kernel_rfl) (by kernel_rfl) (fun _ _ _ h => h) (by rfl) (fun G hG => by obtain ⟨e0, e1⟩ := unhide HCA G hG; go_simp) hS ?_
                  simp only [Act.put, List.setIfInBounds_toArray, List.set_cons_zero, List.set_cons_succ]
                  refine wpAnyL_take 15 77 (.slice (some ⟨g2, o2, none⟩) m d) [17, 18, 19, 20, 21, 22] rfl rfl (by kernel_rfl) (by kernel_rfl) (by kernel_rfl) (by kernel_rfl) (by kernel_rfl) (fun _ _ _ h => h) (by rfl) (fun _ _ => by go_simp) hS ?_
                  simp only [Act.put, List.setIfInBounds_toArray, List.set_cons_zero, List.set_cons_succ]
                  refine wpAnyL_take 16 78 (.int .i64 (k : Int)) [17, 18, 19, 20, 21, 22] rfl rfl (by kernel_rfl) (by kernel_rfl) (by kernel_rfl) (by kernel_rfl) (by kernel_rfl) (fun _ _ _ h => h) (by rfl) (fun _ _ => by go_simp) hS ?_
                  simp only [Act.put, List.setIfInBounds_toArray, List.set_cons_zero, List.set_cons_succ]
                  refine wpAnyL_take 17 79 (.pointer (some ⟨g2, op, none⟩)) [18, 19, 20, 21, 22] rfl rfl (by kernel_rfl) (by kernel_rfl) (by kernel_rfl) (by kernel_rfl) (by kernel_rfl) (fun _ _ _ h => h) (by rfl) (fun _ _ => by go_simp) hS ?_
                  simp only [Act.put, List.setIfInBounds_toArray, List.set_cons_zero, List.set_cons_succ]
                  refine wpAnyL_take 18 80 (.pointer (some ⟨g2, op, none⟩)) [19, 20, 21, 22] rfl rfl (by kernel_rfl) (by kernel_rfl) (by kernel_rfl) (by kernel_rfl) (by kernel_rfl) (fun _ _ _ h => h) (by rfl) (fun _ _ => by go_simp) hS ?_
                  simp only [Act.put, List.setIfInBounds_toArray, List.set_cons_zero, List.set_cons_succ]
                  refine wpAnyL_take 19 81 (.string yk) [20, 21, 22] rfl rfl (by kernel_rfl) (by kernel_rfl) (by kernel_rfl) (by kernel_rfl) (by kernel_rfl) (fun _ _ _ h => h) (by rfl) (fun G hG => by obtain ⟨e0, e1⟩ := unhide HCB G hG; go_simp) hS ?_
                  simp only [Act.put, List.setIfInBounds_toArray, List.set_cons_zero, List.set_cons_succ]
                  refine wpAnyL_take 20 82 (.bool false) [21, 22] rfl rfl (by kernel_rfl) (by kernel_rfl) (by kernel_rfl) (by kernel_rfl) (by kernel_rfl) (fun _ _ _ h => h) (by rfl) (fun _ _ => by go_simp) hS ?_
                  simp only [Act.put, List.setIfInBounds_toArray, List.set_cons_zero, List.set_cons_succ]
                  refine wpAnyL_take 21 83 (.bool false) [22] rfl rfl (by kernel_rfl) (by kernel_rfl) (by kernel_rfl) (by kernel_rfl) (by kernel_rfl) (fun _ _ _ h => h) (by rfl) (fun _ _ => by go_simp) hS ?_
                  simp only [Act.put, List.setIfInBounds_toArray, List.set_cons_zero, List.set_cons_succ]
                  refine wpAnyL_take 22 84 (.bool false) [] rfl rfl (by kernel_rfl) (by kernel_rfl) (by kernel_rfl) (by kernel_rfl) (by kernel_rfl) (fun _ _ _ h => h) (by rfl) (fun _ _ => by go_simp) hS ?_
                  simp only [Act.put, List.setIfInBounds_toArray, List.set_cons_zero, List.set_cons_succ]
                  refine wpAnyL_one (i := 23) (by kernel_rfl) rfl (by rfl) fun K hK => ?_
                  refine wp_val (.bool false) (by go_simp) (some 61) (by rfl) ?_
                  refine hK _ _ (fun _ => hS) ?_
                  clear hK K
                  simp only [Act.put, List.setIfInBounds_toArray, List.set_cons_zero, List.set_cons_succ]
                  refine wpAnyL_done (by kernel_rfl) ?_ _
                  have HIY1 := hide hS
                  clear hS
                  obtain ⟨ca0Y1, ca1Y1⟩ := unhide HCA Y1 (unhide HIY1)
                  obtain ⟨cb0Y1, cb1Y1⟩ := unhide HCB Y1 (unhide HIY1)
                  go_wp2_with fail
                  refine wp_region_last (fun G => Below u.heap.size u G) 17 hmix (belowDrew (unhide HIY1)) fun hS => ?_
                  have HOY2 : Hid (RD.Own Y1.drew u.heap.size acc xo cc) := (unhide HOY1).below (belowDrew (Below.refl _ _))
                  generalize Y1.drew = Y2 at hS HOY2 ⊢
                  refine wpAnyL_take 0 102 (.int .i64 (i : Int)) [3, 4] rfl rfl (by kernel_rfl) (by kernel_rfl) (by kernel_rfl) (by kernel_rfl) (by kernel_rfl) (fun _ _ _ h => h) (by rfl) (fun _ _ => by go_simp) hS ?_
                  simp only [Act.put, List.setIfInBounds_toArray, List.set_cons_zero, List.set_cons_succ]
                  refine wpAnyL_take 1 103 (.slice (some ⟨g, o, none⟩) n c) [2, 3, 4] rfl rfl (by kernel_rfl) (by kernel_rfl) (by kernel_rfl) (by kernel_rfl) (by kernel_rfl) (fun _ _ _ h => h) (by rfl) (fun _ _ => by go_simp) hS ?_
                  simp only [Act.put, List.setIfInBounds_toArray, List.set_cons_zero, List.set_cons_succ]
                  refine wpAnyL_take 2 104 (.int .i64 (n : Int)) [3, 4] rfl rfl (by kernel_rfl) (by kernel_rfl) (by kernel_rfl) (by kernel_rfl) (by kernel_rfl) (fun _ _ _ h => h) (by rfl) (fun _ _ => by go_simp) hS ?_
                  simp only [Act.put, List.setIfInBounds_toArray, List.set_cons_zero, List.set_cons_succ]
                  refine wpAnyL_take 3 105 (.bool false) [4] rfl rfl (by kernel_rfl) (by kernel_rfl) (by kernel_rfl) (by kernel_rfl) (by kernel_rfl) (fun _ _ _ h => h) (by rfl) (fun _ _ => by go_simp) hS ?_
                  simp only [Act.put, List.setIfInBounds_toArray, List.set_cons_zero, List.set_cons_succ]
                  refine wpAnyL_take 4 106 (.bool false) [] rfl rfl (by kernel_rfl) (by kernel_rfl) (by kernel_rfl) (by kernel_rfl) (by kernel_rfl) (fun _ _ _ h => h) (by rfl) (fun _ _ => by go_simp) hS ?_
                  simp only [Act.put, List.setIfInBounds_toArray, List.set_cons_zero, List.set_cons_succ]
                  refine wpAnyL_take 5 107 (.slice (some ⟨g2, o2, none⟩) m d) [7, 8, 9, 15, 16] rfl rfl (by kernel_rfl) (by kernel_rfl) (by kernel_rfl) (by kernel_rfl) (by kernel_rfl) (fun _ _ _ h => h) (by rfl) (fun _ _ => by go_simp) hS ?_
                  simp only [Act.put, List.setIfInBounds_toArray, List.set_cons_zero, List.set_cons_succ]
                  refine wpAnyL_take 6 108 (.int .i64 (k : Int)) [7, 8, 9, 15, 16] rfl rfl (by kernel_rfl) (by kernel_rfl) (by kernel_rfl) (by kernel_rfl) (by kernel_rfl) (fun _ _ _ h => h) (by rfl) (fun _ _ => by go_simp) hS ?_
                  simp only [Act.put, List.setIfInBounds_toArray, List.set_cons_zero, List.set_cons_succ]
                  refine wpAnyL_take 7 109 (.pointer (some ⟨g2, op, none⟩)) [8, 9, 15, 16] rfl rfl (by kernel_rfl) (by kernel_rfl) (by kernel_rfl) (by kernel_rfl) (by kernel_rfl) (fun _ _ _ h => h) (by rfl) (fun _ _ => by go_simp) hS ?_
                  simp only [Act.put, List.setIfInBounds_toArray, List.set_cons_zero, List.set_cons_succ]
                  refine wpAnyL_take 8 110 (.pointer (some ⟨g2, op, none⟩)) [9, 15, 16] rfl rfl (by kernel_rfl) (by kernel_rfl) (by kernel_rfl) (by kernel_rfl) (by kernel_rfl) (fun _ _ _ h => h) (by rfl) (fun _ _ => by go_simp) hS ?_
                  simp only [Act.put, List.setIfInBounds_toArray, List.set_cons_zero, List.set_cons_succ]
                  refine wpAnyL_take 9 111 (.string yk) [15, 16] rfl rfl (by kernel_rfl) (by kernel_rfl) (by kernel_rfl) (by kernel_rfl) (by kernel_rfl) (fun _ _ _ h => h) (by rfl) (fun G hG => by obtain ⟨e0, e1⟩ := unhide HCB G hG; go_simp) hS ?_
                  simp only [Act.put, List.setIfInBounds_toArray, List.set_cons_zero, List.set_cons_succ]
                  refine wpAnyL_take 10 112 (.slice (some ⟨g, o, none⟩) n c) [12, 13, 14, 15, 16] rfl rfl (by kernel_rfl) (by kernel_rfl) (by kernel_rfl) (by kernel_rfl) (by kernel_rfl) (fun _ _ _ h => h) (by rfl) (fun _ _ => by go_simp) hS ?_
                  simp only [Act.put, List.setIfInBounds_toArray, List.set_cons_zero, List.set_cons_succ]
                  refine wpAnyL_take 11 113 (.int .i64 (i : Int)) [12, 13, 14, 15, 16] rfl rfl (by kernel_rfl) (by kernel_rfl) (by kernel_rfl) (by kernel_rfl) (by kernel_rfl) (fun _ _ _ h => h) (by rfl) (fun _ _ => by go_simp) hS ?_
                  simp only [Act.put, List.setIfInBounds_toArray, List.set_cons_zero, List.set_cons_succ]
                  refine wpAnyL_take 12 114 (.pointer (some ⟨g, oo, none⟩)) [13, 14, 15, 16] rfl rfl (by kernel_rfl) (by kernel_rfl) (by kernel_rfl) (by kernel_rfl) (by kernel_rfl) (fun _ _ _ h => h) (by rfl) (fun _ _ => by go_simp) hS ?_
                  simp only [Act.put, List.setIfInBounds_toArray, List.set_cons_zero, List.set_cons_succ]
                  refine wpAnyL_take 13 115 (.pointer (some ⟨g, oo, none⟩)) [14, 15, 16] rfl rfl (by kernel_rfl) (by kernel_rfl) (by kernel_rfl) (by kernel_rfl) (by kernel_rfl) (fun _ _ _ h => h) (by rfl) (fun _ _ => by go_simp) hS ?_
                  simp only [Act.put, List.setIfInBounds_toArray, List.set_cons_zero, List.set_cons_succ]
                  refine wpAnyL_take 14 116 (.string xk) [15, 16] rfl rfl (by kernel_rfl) (by kernel_rfl) (by kernel_rfl) (by kernel_rfl) (by kernel_rfl) (fun _ _ _ h => h) (by rfl) (fun G hG => by obtain ⟨e0, e1⟩ := unhide HCA G hG; go_simp) hS ?_
                  simp only [Act.put, List.setIfInBounds_toArray, List.set_cons_zero, List.set_cons_succ]
                  refine wpAnyL_take 15 117 (.bool false) [16] rfl rfl (by kernel_rfl) (by kernel_rfl) (by kernel_rfl) (by kernel_rfl) (by kernel_rfl) (fun _ _ _ h => h) (by rfl) (fun _ _ => by go_simp) hS ?_
                  simp only [Act.put, List.setIfInBounds_toArray, List.set_cons_zero, List.set_cons_succ]
                  refine wpAnyL_take 16 118 (.bool false) [] rfl rfl (by kernel_rfl) (by kernel_rfl) (by kernel_rfl) (by kernel_rfl) (by kernel_rfl) (fun _ _ _ h => h) (by rfl) (fun _ _ => by go_simp) hS ?_
                  simp only [Act.put, List.setIfInBounds_toArray, List.set_cons_zero, List.set_cons_succ]
                  refine wpAnyL_one (i := 17) (by kernel_rfl) rfl (by rfl) fun K hK => ?_
                  refine wp_val (.bool false) (by go_simp) (some 101) (by rfl) ?_
                  refine hK _ _ (fun _ => hS) ?_
                  clear hK K
                  simp only [Act.put, List.setIfInBounds_toArray, List.set_cons_zero, List.set_cons_succ]
                  refine wpAnyL_done (by kernel_rfl) ?_ _
                  have HIY2 := hide hS
                  clear hS
                  obtain ⟨ca0Y2, ca1Y2⟩ := unhide HCA Y2 (unhide HIY2)
                  obtain ⟨cb0Y2, cb1Y2⟩ := unhide HCB Y2 (unhide HIY2)
                  go_wp2_with fail
                  refine wp_region_last (fun G => Below u.heap.size u G) 10 hmix (belowDrew (unhide HIY2)) fun hS => ?_
                  have HOY3 : Hid (RD.Own Y2.drew u.heap.size acc xo cc) := (unhide HOY2).below (belowDrew (Below.refl _ _))
                  generalize Y2.drew = Y3 at hS HOY3 ⊢
                  refine wpAnyL_take 0 27 (.slice (some ⟨g, o, none⟩) n c) [2, 3, 4] rfl rfl (by kernel_rfl) (by kernel_rfl) (by kernel_rfl) (by kernel_rfl) (by kernel_rfl) (fun _ _ _ h => h) (by rfl) (fun _ _ => by go_simp) hS ?_
                  simp only [Act.put, List.setIfInBounds_toArray, List.set_cons_zero, List.set_cons_succ]
                  refine wpAnyL_take 1 28 (.int .i64 (i : Int)) [2, 3, 4] rfl rfl (by kernel_rfl) (by kernel_rfl) (by kernel_rfl) (by kernel_rfl) (by kernel_rfl) (fun _ _ _ h => h) (by rfl) (fun _ _ => by go_simp) hS ?_
                  simp only [Act.put, List.setIfInBounds_toArray, List.set_cons_zero, List.set_cons_succ]
                  refine wpAnyL_take 2 29 (.pointer (some ⟨g, oo, none⟩)) [3, 4] rfl rfl (by kernel_rfl) (by kernel_rfl) (by kernel_rfl) (by kernel_rfl) (by kernel_rfl) (fun _ _ _ h => h) (by rfl) (fun _ _ => by go_simp) hS ?_
                  simp only [Act.put, List.setIfInBounds_toArray, List.set_cons_zero, List.set_cons_succ]
                  refine wpAnyL_take 3 30 (.pointer (some ⟨g, oo + 1, none⟩)) [4] rfl rfl (by kernel_rfl) (by kernel_rfl) (by kernel_rfl) (by kernel_rfl) (by kernel_rfl) (fun _ _ _ h => h) (by rfl) (fun _ _ => by go_simp) hS ?_
                  simp only [Act.put, List.setIfInBounds_toArray, List.set_cons_zero, List.set_cons_succ]
                  refine wpAnyL_take 4 31 (.string xs) [] rfl rfl (by kernel_rfl) (by kernel_rfl) (by kernel_rfl) (by kernel_rfl) (by kernel_rfl) (fun _ _ _ h => h) (by rfl) (fun G hG => by obtain ⟨e0, e1⟩ := unhide HCA G hG; go_simp) hS ?_
                  simp only [Act.put, List.setIfInBounds_toArray, List.set_cons_zero, List.set_cons_succ]
                  refine wpAnyL_take 5 32 (.slice (some ⟨g2, o2, none⟩) m d) [7, 8, 9] rfl rfl (by kernel_rfl) (by kernel_rfl) (by kernel_rfl) (by kernel_rfl) (by kernel_rfl) (fun _ _ _ h => h) (by rfl) (fun _ _ => by go_simp) hS ?_
                  simp only [Act.put, List.setIfInBounds_toArray, List.set_cons_zero, List.set_cons_succ]
                  refine wpAnyL_take 6 33 (.int .i64 (k : Int)) [7, 8, 9] rfl rfl (by kernel_rfl) (by kernel_rfl) (by kernel_rfl) (by kernel_rfl) (by kernel_rfl) (fun _ _ _ h => h) (by rfl) (fun _ _ => by go_simp) hS ?_
                  simp only [Act.put, List.setIfInBounds_toArray, List.set_cons_zero, List.set_cons_succ]
                  refine wpAnyL_take 7 34 (.pointer (some ⟨g2, op, none⟩)) [8, 9] rfl rfl (by kernel_rfl) (by kernel_rfl) (by kernel_rfl) (by kernel_rfl) (by kernel_rfl) (fun _ _ _ h => h) (by rfl) (fun _ _ => by go_simp) hS ?_
                  simp only [Act.put, List.setIfInBounds_toArray, List.set_cons_zero, List.set_cons_succ]
                  refine wpAnyL_take 8 35 (.pointer (some ⟨g2, op + 1, none⟩)) [9] rfl rfl (by kernel_rfl) (by kernel_rfl) (by kernel_rfl) (by kernel_rfl) (by kernel_rfl) (fun _ _ _ h => h) (by rfl) (fun _ _ => by go_simp) hS ?_
                  simp only [Act.put, List.setIfInBounds_toArray, List.set_cons_zero, List.set_cons_succ]
                  refine wpAnyL_take 9 36 (.string ys) [] rfl rfl (by kernel_rfl) (by kernel_rfl) (by kernel_rfl) (by kernel_rfl) (by kernel_rfl) (fun _ _ _ h => h) (by rfl) (fun G hG => by obtain ⟨e0, e1⟩ := unhide HCB G hG; go_simp) hS ?_
                  simp only [Act.put, List.setIfInBounds_toArray, List.set_cons_zero, List.set_cons_succ]
                  refine wpAnyL_one (i := 10) (by kernel_rfl) rfl (by rfl) fun K hK => ?_
                  refine wp_val (.bool false) (by go_simp) (some 37) (by rfl) ?_
                  refine hK _ _ (fun _ => hS) ?_
                  clear hK K
                  simp only [Act.put, List.setIfInBounds_toArray, List.set_cons_zero, List.set_cons_succ]
                  refine wpAnyL_done (by kernel_rfl) ?_ _
                  have HIY3 := hide hS
                  clear hS
                  obtain ⟨ca0Y3, ca1Y3⟩ := unhide HCA Y3 (unhide HIY3)
                  obtain ⟨cb0Y3, cb1Y3⟩ := unhide HCB Y3 (unhide HIY3)
                  go_wp2
                  go_roundw
                  case rel => exact ⟨i + 1, k + 1, m0, cc, xo, acc, by omega, by omega, by go_num, by go_num, rfl, unhide HML, unhide HN, unhide HOY3, unhide HIY3⟩
                  case measure => simp [intOf]; omega
                · have HN := hide (DI.n (unhide HAC) hil hkl he hs)
                  clear HSA HSB HAC
                  unfold lt at h1 h2
                  generalize a[i] = x at *
                  obtain ⟨xk, xs⟩ := x
                  have HCA : Hid (∀ G : World, Below u.heap.size u G → G.cell? ⟨g, o + i * 2, none⟩ = some (.string xk) ∧ G.cell? ⟨g, o + i * 2 + 1, none⟩ = some (.string xs)) := HCA
                  generalize o + i * 2 = oo at *
                  obtain ⟨ca0, ca1⟩ := unhide HCA wr (unhide HI)
                  generalize b[k] = y at *
                  obtain ⟨yk, ys⟩ := y
                  have HCB : Hid (∀ G : World, Below u.heap.size u G → G.cell? ⟨g2, o2 + k * 2, none⟩ = some (.string yk) ∧ G.cell? ⟨g2, o2 + k * 2 + 1, none⟩ = some (.string ys)) := HCB
                  generalize o2 + k * 2 = op at *
                  obtain ⟨cb0, cb1⟩ := unhide HCB wr (unhide HI)
                  have h1 : Op.bytesLess xk.toList yk.toList = false := h1
                  have h2 : Op.bytesLess yk.toList xk.toList = false := h2
                  have hs : ¬ xs = ys := hs
                  have hq : (xs.toList == ys.toList) = false := by rw [ba_beq]; exact decide_eq_false hs
                  have hq2 : ¬ xs.toList = ys.toList := fun e => hs (ba_list e)
                  have HN : Hid ((acc ++ [(xk, xs, ys)]) ++ difs (mgE (a.drop (i + 1)) (b.drop (k + 1))) = dl) := HN
                  clear he hs
                  go_wp2_with fail
                  refine wp_region_last (fun G => Below u.heap.size u G) 23 hmix (belowDrew (unhide HI)) fun hS => ?_
                  have HOY1 : Hid (RD.Own wr.drew u.heap.size acc xo cc) := (unhide HO).below (belowDrew (Below.refl _ _))
                  generalize wr.drew = Y1 at hS HOY1 ⊢
                  refine wpAnyL_take 0 62 (.int .i64 (k : Int)) [3, 4, 9] rfl rfl (by kernel_rfl) (by kernel_rfl) (by kernel_rfl) (by kernel_rfl) (by kernel_rfl) (fun _ _ _ h => h) (by rfl) (fun _ _ => by go_simp) hS ?_
                  simp only [Act.put, List.setIfInBounds_toArray, List.set_cons_zero, List.set_cons_succ]
                  refine wpAnyL_take 1 63 (.slice (some ⟨g2, o2, none⟩) m d) [2, 3, 4, 9] rfl rfl (by kernel_rfl) (by kernel_rfl) (by kernel_rfl) (by kernel_rfl) (by kernel_rfl) (fun _ _ _ h => h) (by rfl) (fun _ _ => by go_simp) hS ?_
                  simp only [Act.put, List.setIfInBounds_toArray, List.set_cons_zero, List.set_cons_succ]
                  refine wpAnyL_take 2 64 (.int .i64 (m : Int)) [3, 4, 9] rfl rfl (by kernel_rfl) (by kernel_rfl) (by kernel_rfl) (by kernel_rfl) (by kernel_rfl) (fun _ _ _ h => h) (by rfl) (fun _ _ => by go_simp) hS ?_
                  simp only [Act.put, List.setIfInBounds_toArray, List.set_cons_zero, List.set_cons_succ]
                  refine wpAnyL_take 3 65 (.bool false) [4, 9] rfl rfl (by kernel_rfl) (by kernel_rfl) (by kernel_rfl) (by kernel_rfl) (by kernel_rfl) (fun _ _ _ h => h) (by rfl) (fun _ _ => by go_simp) hS ?_
                  simp only [Act.put, List.setIfInBounds_toArray, List.set_cons_zero, List.set_cons_succ]
                  refine wpAnyL_take 4 66 (.bool false) [9] rfl rfl (by kernel_rfl) (by kernel_rfl) (by kernel_rfl) (by kernel_rfl) (by kernel_rfl) (fun _ _ _ h => h) (by rfl) (fun _ _ => by go_simp) hS ?_
                  simp only [Act.put, List.setIfInBounds_toArray, List.set_cons_zero, List.set_cons_succ]
                  refine wpAnyL_take 5 67 (.int .i64 (i : Int)) [8, 9] rfl rfl (by kernel_rfl) (by kernel_rfl) (by kernel_rfl) (by kernel_rfl) (by kernel_rfl) (fun _ _ _ h => h) (by rfl) (fun _ _ => by go_simp) hS ?_
                  simp only [Act.put, List.setIfInBounds_toArray, List.set_cons_zero, List.set_cons_succ]
                  refine wpAnyL_take 6 68 (.slice (some ⟨g, o, none⟩) n c) [7, 8, 9] rfl rfl (by kernel_rfl) (by kernel_rfl) (by kernel_rfl) (by kernel_rfl) (by kernel_rfl) (fun _ _ _ h => h) (by rfl) (fun _ _ => by go_simp) hS ?_
                  simp only [Act.put, List.setIfInBounds_toArray, List.set_cons_zero, List.set_cons_succ]
                  refine wpAnyL_take 7 69 (.int .i64 (n : Int)) [8, 9] rfl rfl (by kernel_rfl) (by kernel_rfl) (by kernel_rfl) (by kernel_rfl) (by kernel_rfl) (fun _ _ _ h => h) (by rfl) (fun _ _ => by go_simp) hS ?_
                  simp only [Act.put, List.setIfInBounds_toArray, List.set_cons_zero, List.set_cons_succ]
                  refine wpAnyL_take 8 70 (.bool true) [9] rfl rfl (by kernel_rfl) (by kernel_rfl) (by kernel_rfl) (by kernel_rfl) (by kernel_rfl) (fun _ _ _ h => h) (by rfl) (fun _ _ => by go_simp) hS ?_
                  simp only [Act.put, List.setIfInBounds_toArray, List.set_cons_zero, List.set_cons_succ]
                  refine wpAnyL_take 9 71 (.bool true) [] rfl rfl (by kernel_rfl) (by kernel_rfl) (by kernel_rfl) (by kernel_rfl) (by kernel_rfl) (fun _ _ _ h => h) (by rfl) (fun _ _ => by go_simp) hS ?_
                  simp only [Act.put, List.setIfInBounds_toArray, List.set_cons_zero, List.set_cons_succ]
                  refine wpAnyL_take 10 72 (.slice (some ⟨g, o, none⟩) n c) [12, 13, 14, 20, 21, 22] rfl rfl (by kernel_rfl) (by kernel_rfl) (by kernel_rfl) (by kernel_rfl) (by kernel_rfl) (fun _ _ _ h => h) (by rfl) (fun _ _ => by go_simp) hS ?_
                  simp only [Act.put, List.setIfInBounds_toArray, List.set_cons_zero, List.set_cons_succ]
                  refine wpAnyL_take 11 73 (.int .i64 (i : Int)) [12, 13, 14, 20, 21, 22] rfl rfl (by kernel_rfl) (by kernel_rfl) (by kernel_rfl) (by kernel_rfl) (by kernel_rfl) (fun _ _ _ h => h) (by rfl) (fun _ _ => by go_simp) hS ?_
                  simp only [Act.put, List.setIfInBounds_toArray, List.set_cons_zero, List.set_cons_succ]
                  refine wpAnyL_take 12 74 (.pointer (some ⟨g, oo, none⟩)) [13, 14, 20, 21, 22] rfl rfl (by kernel_rfl) (by kernel_rfl) (by kernel_rfl) (by kernel_rfl) (by kernel_rfl) (fun _ _ _ h => h) (by rfl) (fun _ _ => by go_simp) hS ?_
                  simp only [Act.put, List.setIfInBounds_toArray, List.set_cons_zero, List.set_cons_succ]
                  refine wpAnyL_take 13 75 (.pointer (some ⟨g, oo, none⟩)) [14, 20, 21, 22] rfl rfl (by kernel_rfl) (by kernel_rfl) (by kernel_rfl) (by kernel_rfl) (by kernel_rfl) (fun _ _ _ h => h) (by rfl) (fun _ _ => by go_simp) hS ?_
                  simp only [Act.put, List.setIfInBounds_toArray, List.set_cons_zero, List.set_cons_succ]
                  refine wpAnyL_take 14 76 (.string xk) [20, 21, 22] rfl rfl (by kernel_rfl) (by kernel_rfl) (by kernel_rfl) (by kernel_rfl) (by kernel_rfl) (fun _ _ _ h => h) (by rfl) (fun G hG => by obtain ⟨e0, e1⟩ := unhide HCA G hG; go_simp) hS ?_
                  simp only [Act.put, List.setIfInBounds_toArray, List.set_cons_zero, List.set_cons_succ]
                  refine wpAnyL_take 15 77 (.slice (some ⟨g2, o2, none⟩) m d) [17, 18, 19, 20, 21, 22] rfl rfl (by kernel_rfl) (by kernel_rfl) (by kernel_rfl) (by kernel_rfl) (by kernel_rfl) (fun _ _ _ h => h) (by rfl) (fun _ _ => by go_simp) hS ?_
                  simp only [Act.put, List.setIfInBounds_toArray, List.set_cons_zero, List.set_cons_succ]
                  refine wpAnyL_take 16 78 (.int .i64 (k : Int)) [17, 18, 19, 20, 21, 22] rfl rfl (by kernel_rfl) (by kernel_rfl) (by kernel_rfl) (by kernel_rfl) (by kernel_rfl) (fun _ _ _ h => h) (by rfl) (fun _ _ => by go_simp) hS ?_
                  simp only [Act.put, List.setIfInBounds_toArray, List.set_cons_zero, List.set_cons_succ]
                  refine wpAnyL_take 17 79 (.pointer (some ⟨g2, op, none⟩)) [18, 19, 20, 21, 22] rfl rfl (by kernel_rfl) (by kernel_rfl) (by kernel_rfl) (by kernel_rfl) (by kernel_rfl) (fun _ _ _ h => h) (by rfl) (fun _ _ => by go_simp) hS ?_
                  simp only [Act.put, List.setIfInBounds_toArray, List.set_cons_zero, List.set_cons_succ]
                  refine wpAnyL_take 18 80 (.pointer (some ⟨g2, op, none⟩)) [19, 20, 21, 22] rfl rfl (by kernel_rfl) (by kernel_rfl) (by kernel_rfl) (by kernel_rfl) (by kernel_rfl) (fun _ _ _ h => h) (by rfl) (fun _ _ => by go_simp) hS ?_
                  simp only [Act.put, List.setIfInBounds_toArray, List.set_cons_zero, List.set_cons_succ]
                  refine wpAnyL_take 19 81 (.string yk) [20, 21, 22] rfl rfl (by kernel_rfl) (by kernel_rfl) (by kernel_rfl) (by kernel_rfl) (by kernel_rfl) (fun _ _ _ h => h) (by rfl) (fun G hG => by obtain ⟨e0, e1⟩ := unhide HCB G hG; go_simp) hS ?_
                  simp only [Act.put, List.setIfInBounds_toArray, List.set_cons_zero, List.set_cons_succ]
                  refine wpAnyL_take 20 82 (.bool false) [21, 22] rfl rfl (by kernel_rfl) (by kernel_rfl) (by kernel_rfl) (by kernel_rfl) (by kernel_rfl) (fun _ _ _ h => h) (by rfl) (fun _ _ => by go_simp) hS ?_
                  simp only [Act.put, List.setIfInBounds_toArray, List.set_cons_zero, List.set_cons_succ]
                  refine wpAnyL_take 21 83 (.bool false) [22] rfl rfl (by kernel_rfl) (by kernel_rfl) (by kernel_rfl) (by kernel_rfl) (by kernel_rfl) (fun _ _ _ h => h) (by rfl) (fun _ _ => by go_simp) hS ?_
                  simp only [Act.put, List.setIfInBounds_toArray, List.set_cons_zero, List.set_cons_succ]
                  refine wpAnyL_take 22 84 (.bool false) [] rfl rfl (by kernel_rfl) (by kernel_rfl) (by kernel_rfl) (by kernel_rfl) (by kernel_rfl) (fun _ _ _ h => h) (by rfl) (fun _ _ => by go_simp) hS ?_
                  simp only [Act.put, List.setIfInBounds_toArray, List.set_cons_zero, List.set_cons_succ]
                  refine wpAnyL_one (i := 23) (by kernel_rfl) rfl (by rfl) fun K hK => ?_
                  refine wp_val (.bool false) (by go_simp) (some 61) (by rfl) ?_
                  refine hK _ _ (fun _ => hS) ?_
                  clear hK K
                  simp only [Act.put, List.setIfInBounds_toArray, List.set_cons_zero, List.set_cons_succ]
                  refine wpAnyL_done (by kernel_rfl) ?_ _
                  have HIY1 := hide hS
                  clear hS
                  obtain ⟨ca0Y1, ca1Y1⟩ := unhide HCA Y1 (unhide HIY1)
                  obtain ⟨cb0Y1, cb1Y1⟩ := unhide HCB Y1 (unhide HIY1)
                  go_wp2_with fail
                  refine wp_region_last (fun G => Below u.heap.size u G) 17 hmix (belowDrew (unhide HIY1)) fun hS => ?_
                  have HOY2 : Hid (RD.Own Y1.drew u.heap.size acc xo cc) := (unhide HOY1).below (belowDrew (Below.refl _ _))
                  generalize Y1.drew = Y2 at hS HOY2 ⊢
                  refine wpAnyL_take 0 102 (.int .i64 (i : Int)) [3, 4] rfl rfl (by kernel_rfl) (by kernel_rfl) (by kernel_rfl) (by kernel_rfl) (by kernel_rfl) (fun _ _ _ h => h) (by rfl) (fun _ _ => by go_simp) hS ?_
                  simp only [Act.put, List.setIfInBounds_toArray, List.set_cons_zero, List.set_cons_succ]
                  refine wpAnyL_take 1 103 (.slice (some ⟨g, o, none⟩) n c) [2, 3, 4] rfl rfl (by kernel_rfl) (by kernel_rfl) (by kernel_rfl) (by kernel_rfl) (by kernel_rfl) (fun _ _ _ h => h) (by rfl) (fun _ _ => by go_simp) hS ?_
                  simp only [Act.put, List.setIfInBounds_toArray, List.set_cons_zero, List.set_cons_succ]
                  refine wpAnyL_take 2 104 (.int .i64 (n : Int)) [3, 4] rfl rfl (by kernel_rfl) (by kernel_rfl) (by kernel_rfl) (by kernel_rfl) (by kernel_rfl) (fun _ _ _ h => h) (by rfl) (fun _ _ => by go_simp) hS ?_
                  simp only [Act.put, List.setIfInBounds_toArray, List.set_cons_zero, List.set_cons_succ]
                  refine wpAnyL_take 3 105 (.bool false) [4] rfl rfl (by kernel_rfl) (by kernel_rfl) (by kernel_rfl) (by kernel_rfl) (by kernel_rfl) (fun _ _ _ h => h) (by rfl) (fun _ _ => by go_simp) hS ?_
                  simp only [Act.put, List.setIfInBounds_toArray, List.set_cons_zero, List.set_cons_succ]
                  refine wpAnyL_take 4 106 (.bool false) [] rfl rfl (by kernel_rfl) (by kernel_rfl) (by kernel_rfl) (by kernel_rfl) (by kernel_rfl) (fun _ _ _ h => h) (by rfl) (fun _ _ => by go_simp) hS ?_
                  simp only [Act.put, List.setIfInBounds_toArray, List.set_cons_zero, List.set_cons_succ]
                  refine wpAnyL_take 5 107 (.slice (some ⟨g2, o2, none⟩) m d) [7, 8, 9, 15, 16] rfl rfl (by kernel_rfl) (by kernel_rfl) (by kernel_rfl) (by kernel_rfl) (by kernel_rfl) (fun _ _ _ h => h) (by rfl) (fun _ _ => by go_simp) hS ?_
                  simp only [Act.put, List.setIfInBounds_toArray, List.set_cons_zero, List.set_cons_succ]
                  refine wpAnyL_take 6 108 (.int .i64 (k : Int)) [7, 8, 9, 15, 16] rfl rfl (by kernel_rfl) (by kernel_rfl) (by kernel_rfl) (by kernel_rfl) (by kernel_rfl) (fun _ _ _ h => h) (by rfl) (fun _ _ => by go_simp) hS ?_
                  simp only [Act.put, List.setIfInBounds_toArray, List.set_cons_zero, List.set_cons_succ]
                  refine wpAnyL_take 7 109 (.pointer (some ⟨g2, op, none⟩)) [8, 9, 15, 16] rfl rfl (by kernel_rfl) (by kernel_rfl) (by kernel_rfl) (by kernel_rfl) (by kernel_rfl) (fun _ _ _ h => h) (by rfl) (fun _ _ => by go_simp) hS ?_
                  simp only [Act.put, List.setIfInBounds_toArray, List.set_cons_zero, List.set_cons_succ]
                  refine wpAnyL_take 8 110 (.pointer (some ⟨g2, op, none⟩)) [9, 15, 16] rfl rfl (by kernel_rfl) (by kernel_rfl) (by kernel_rfl) (by kernel_rfl) (by kernel_rfl) (fun _ _ _ h => h) (by rfl) (fun _ _ => by go_simp) hS ?_
                  simp only [Act.put, List.setIfInBounds_toArray, List.set_cons_zero, List.set_cons_succ]
                  refine wpAnyL_take 9 111 (.string yk) [15, 16] rfl rfl (by kernel_rfl) (by kernel_rfl) (by kernel_rfl) (by kernel_rfl) (by kernel_rfl) (fun _ _ _ h => h) (by rfl) (fun G hG => by obtain ⟨e0, e1⟩ := unhide HCB G hG; go_simp) hS ?_
                  simp only [Act.put, List.setIfInBounds_toArray, List.set_cons_zero, List.set_cons_succ]
                  refine wpAnyL_take 10 112 (.slice (some ⟨g, o, none⟩) n c) [12, 13, 14, 15, 16] rfl rfl (by kernel_rfl) (by kernel_rfl) (by kernel_rfl) (by kernel_rfl) (by kernel_rfl) (fun _ _ _ h => h) (by rfl) (fun _ _ => by go_simp) hS ?_
                  simp only [Act.put, List.setIfInBounds_toArray, List.set_cons_zero, List.set_cons_succ]
                  refine wpAnyL_take 11 113 (.int .i64 (i : Int)) [12, 13, 14, 15, 16] rfl rfl (by kernel_rfl) (by kernel_rfl) (by kernel_rfl) (by kernel_rfl) (by kernel_rfl) (fun _ _ _ h => h) (by rfl) (fun _ _ => by go_simp) hS ?_
                  simp only [Act.put, List.setIfInBounds_toArray, List.set_cons_zero, List.set_cons_succ]
                  refine wpAnyL_take 12 114 (.pointer (some ⟨g, oo, none⟩)) [13, 14, 15, 16] rfl rfl (by kernel_rfl) (by kernel_rfl) (by kernel_rfl) (by kernel_rfl) (by kernel_rfl) (fun _ _ _ h => h) (by rfl) (fun _ _ => by go_simp) hS ?_
                  simp only [Act.put, List.setIfInBounds_toArray, List.set_cons_zero, List.set_cons_succ]
                  refine wpAnyL_take 13 115 (.pointer (some ⟨g, oo, none⟩)) [14, 15, 16] rfl rfl (by kernel_rfl) (by kernel_rfl) (by kernel_rfl) (by kernel_rfl) (by kernel_rfl) (fun _ _ _ h => h) (by rfl) (fun _ _ => by go_simp) hS ?_
                  simp only [Act.put, List.setIfInBounds_toArray, List.set_cons_zero, List.set_cons_succ]
                  refine wpAnyL_take 14 116 (.string xk) [15, 16] rfl rfl (by kernel_rfl) (by kernel_rfl) (by kernel_rfl) (by kernel_rfl) (by kernel_rfl) (fun _ _ _ h => h) (by rfl) (fun G hG => by obtain ⟨e0, e1⟩ := unhide HCA G hG; go_simp) hS ?_
                  simp only [Act.put, List.setIfInBounds_toArray, List.set_cons_zero, List.set_cons_succ]
                  refine wpAnyL_take 15 117 (.bool false) [16] rfl rfl (by kernel_rfl) (by kernel_rfl) (by kernel_rfl) (by kernel_rfl) (by kernel_rfl) (fun _ _ _ h => h) (by rfl) (fun _ _ => by go_simp) hS ?_
                  simp only [Act.put, List.setIfInBounds_toArray, List.set_cons_zero, List.set_cons_succ]
                  refine wpAnyL_take 16 118 (.bool false) [] rfl rfl (by kernel_rfl) (by kernel_rfl) (by kernel_rfl) (by kernel_rfl) (by kernel_rfl) (fun _ _ _ h => h) (by rfl) (fun _ _ => by go_simp) hS ?_
                  simp only [Act.put, List.setIfInBounds_toArray, List.set_cons_zero, List.set_cons_succ]
                  refine wpAnyL_one (i := 17) (by kernel_rfl) rfl (by rfl) fun K hK => ?_
                  refine wp_val (.bool false) (by go_simp) (some 101) (by rfl) ?_
                  refine hK _ _ (fun _ => hS) ?_
                  clear hK K
                  simp only [Act.put, List.setIfInBounds_toArray, List.set_cons_zero, List.set_cons_succ]
                  refine wpAnyL_done (by kernel_rfl) ?_ _
                  have HIY2 := hide hS
                  clear hS
                  obtain ⟨ca0Y2, ca1Y2⟩ := unhide HCA Y2 (unhide HIY2)
                  obtain ⟨cb0Y2, cb1Y2⟩ := unhide HCB Y2 (unhide HIY2)
                  go_wp2_with fail
                  refine wp_region_last (fun G => Below u.heap.size u G) 10 hmix (belowDrew (unhide HIY2)) fun hS => ?_
                  have HOY3 : Hid (RD.Own Y2.drew u.heap.size acc xo cc) := (unhide HOY2).below (belowDrew (Below.refl _ _))
                  generalize Y2.drew = Y3 at hS HOY3 ⊢
                  refine wpAnyL_take 0 27 (.slice (some ⟨g, o, none⟩) n c) [2, 3, 4] rfl rfl (by kernel_rfl) (by kernel_rfl) (by kernel_rfl) (by kernel_rfl) (by kernel_rfl) (fun _ _ _ h => h) (by rfl) (fun _ _ => by go_simp) hS ?_
                  simp only [Act.put, List.setIfInBounds_toArray, List.set_cons_zero, List.set_cons_succ]
                  refine wpAnyL_take 1 28 (.int .i64 (i : Int)) [2, 3, 4] rfl rfl (by kernel_rfl) (by kernel_rfl) (by kernel_rfl) (by kernel_rfl) (by kernel_rfl) (fun _ _ _ h => h) (by rfl) (fun _ _ => by go_simp) hS ?_
                  simp only [Act.put, List.setIfInBounds_toArray, List.set_cons_zero, List.set_cons_succ]
                  refine wpAnyL_take 2 29 (.pointer (some ⟨g, oo, none⟩)) [3, 4] rfl rfl (by kernel_rfl) (by kernel_rfl) (by kernel_rfl) (by kernel_rfl) (by kernel_rfl) (fun _ _ _ h => h) (by rfl) (fun _ _ => by go_simp) hS ?_
                  simp only [Act.put, List.setIfInBounds_toArray, List.set_cons_zero, List.set_cons_succ]
                  refine wpAnyL_take 3 30 (.pointer (some ⟨g, oo + 1, none⟩)) [4] rfl rfl (by kernel_rfl) (by kernel_rfl) (by kernel_rfl) (by kernel_rfl) (by kernel_rfl) (fun _ _ _ h => h) (by rfl) (fun _ _ => by go_simp) hS ?_
                  simp only [Act.put, List.setIfInBounds_toArray, List.set_cons_zero, List.set_cons_succ]
                  refine wpAnyL_take 4 31 (.string xs) [] rfl rfl (by kernel_rfl) (by kernel_rfl) (by kernel_rfl) (by kernel_rfl) (by kernel_rfl) (fun _ _ _ h => h) (by rfl) (fun G hG => by obtain ⟨e0, e1⟩ := unhide HCA G hG; go_simp) hS ?_
                  simp only [Act.put, List.setIfInBounds_toArray, List.set_cons_zero, List.set_cons_succ]
                  refine wpAnyL_take 5 32 (.slice (some ⟨g2, o2, none⟩) m d) [7, 8, 9] rfl rfl (by kernel_rfl) (by kernel_rfl) (by kernel_rfl) (by kernel_rfl) (by kernel_rfl) (fun _ _ _ h => h) (by rfl) (fun _ _ => by go_simp) hS ?_
                  simp only [Act.put, List.setIfInBounds_toArray, List.set_cons_zero, List.set_cons_succ]
                  refine wpAnyL_take 6 33 (.int .i64 (k : Int)) [7, 8, 9] rfl rfl (by kernel_rfl) (by kernel_rfl) (by kernel_rfl) (by kernel_rfl) (by kernel_rfl) (fun _ _ _ h => h) (by rfl) (fun _ _ => by go_simp) hS ?_
                  simp only [Act.put, List.setIfInBounds_toArray, List.set_cons_zero, List.set_cons_succ]
                  refine wpAnyL_take 7 34 (.pointer (some ⟨g2, op, none⟩)) [8, 9] rfl rfl (by kernel_rfl) (by kernel_rfl) (by kernel_rfl) (by kernel_rfl) (by kernel_rfl) (fun _ _ _ h => h) (by rfl) (fun _ _ => by go_simp) hS ?_
                  simp only [Act.put, List.setIfInBounds_toArray, List.set_cons_zero, List.set_cons_succ]
                  refine wpAnyL_take 8 35 (.pointer (some ⟨g2, op + 1, none⟩)) [9] rfl rfl (by kernel_rfl) (by kernel_rfl) (by kernel_rfl) (by kernel_rfl) (by kernel_rfl) (fun _ _ _ h => h) (by rfl) (fun _ _ => by go_simp) hS ?_
                  simp only [Act.put, List.setIfInBounds_toArray, List.set_cons_zero, List.set_cons_succ]
                  refine wpAnyL_take 9 36 (.string ys) [] rfl rfl (by kernel_rfl) (by kernel_rfl) (by kernel_rfl) (by kernel_rfl) (by kernel_rfl) (fun _ _ _ h => h) (by rfl) (fun G hG => by obtain ⟨e0, e1⟩ := unhide HCB G hG; go_simp) hS ?_
                  simp only [Act.put, List.setIfInBounds_toArray, List.set_cons_zero, List.set_cons_succ]
                  refine wpAnyL_one (i := 10) (by kernel_rfl) rfl (by rfl) fun K hK => ?_
                  refine wp_val (.bool true) (by go_simp) (some 37) (by rfl) ?_
                  refine hK _ _ (fun _ => hS) ?_
                  clear hK K
                  simp only [Act.put, List.setIfInBounds_toArray, List.set_cons_zero, List.set_cons_succ]
                  refine wpAnyL_done (by kernel_rfl) ?_ _
                  have HIY3 := hide hS
                  clear hS
                  obtain ⟨ca0Y3, ca1Y3⟩ := unhide HCA Y3 (unhide HIY3)
                  obtain ⟨cb0Y3, cb1Y3⟩ := unhide HCB Y3 (unhide HIY3)
                  go_wp2_with fail
                  refine wp_region_last (fun G => Below u.heap.size u G) 19 hmix (belowDrew (unhide HIY3)) fun hS => ?_
                  have HO0 : Hid (RD.Own Y3.drew u.heap.size acc xo cc) := (unhide HOY3).below (belowDrew (Below.refl _ _))
                  generalize Y3.drew = X0 at hS HO0 ⊢
                  refine wpAnyL_take 0 38 (.slice xo m0 cc) [] rfl rfl (by kernel_rfl) (by kernel_rfl) (by kernel_rfl) (by kernel_rfl) (by kernel_rfl) (fun _ _ _ h => h) (by rfl) (fun _ _ => by go_simp) hS ?_
                  simp only [Act.put, List.setIfInBounds_toArray, List.set_cons_zero, List.set_cons_succ]
                  refine wpAnyL_take 1 39 (.slice (some ⟨g, o, none⟩) n c) [] rfl rfl (by kernel_rfl) (by kernel_rfl) (by kernel_rfl) (by kernel_rfl) (by kernel_rfl) (fun _ _ _ h => h) (by rfl) (fun _ _ => by go_simp) hS ?_
                  simp only [Act.put, List.setIfInBounds_toArray, List.set_cons_zero, List.set_cons_succ]
                  refine wpAnyL_take 2 40 (.int .i64 (i : Int)) [] rfl rfl (by kernel_rfl) (by kernel_rfl) (by kernel_rfl) (by kernel_rfl) (by kernel_rfl) (fun _ _ _ h => h) (by rfl) (fun _ _ => by go_simp) hS ?_
                  simp only [Act.put, List.setIfInBounds_toArray, List.set_cons_zero, List.set_cons_succ]
                  refine wpAnyL_take 3 41 (.pointer (some ⟨g, oo, none⟩)) [] rfl rfl (by kernel_rfl) (by kernel_rfl) (by kernel_rfl) (by kernel_rfl) (by kernel_rfl) (fun _ _ _ h => h) (by rfl) (fun _ _ => by go_simp) hS ?_
                  simp only [Act.put, List.setIfInBounds_toArray, List.set_cons_zero, List.set_cons_succ]
                  refine wpAnyL_take 4 42 (.pointer (some ⟨g, oo, none⟩)) [] rfl rfl (by kernel_rfl) (by kernel_rfl) (by kernel_rfl) (by kernel_rfl) (by kernel_rfl) (fun _ _ _ h => h) (by rfl) (fun _ _ => by go_simp) hS ?_
                  simp only [Act.put, List.setIfInBounds_toArray, List.set_cons_zero, List.set_cons_succ]
                  refine wpAnyL_take 5 43 (.string xk) [] rfl rfl (by kernel_rfl) (by kernel_rfl) (by kernel_rfl) (by kernel_rfl) (by kernel_rfl) (fun _ _ _ h => h) (by rfl) (fun G hG => by obtain ⟨e0, e1⟩ := unhide HCA G hG; go_simp) hS ?_
                  simp only [Act.put, List.setIfInBounds_toArray, List.set_cons_zero, List.set_cons_succ]
                  refine wpAnyL_take 6 44 (.slice (some ⟨g, o, none⟩) n c) [] rfl rfl (by kernel_rfl) (by kernel_rfl) (by kernel_rfl) (by kernel_rfl) (by kernel_rfl) (fun _ _ _ h => h) (by rfl) (fun _ _ => by go_simp) hS ?_
                  simp only [Act.put, List.setIfInBounds_toArray, List.set_cons_zero, List.set_cons_succ]
                  refine wpAnyL_take 7 45 (.int .i64 (i : Int)) [] rfl rfl (by kernel_rfl) (by kernel_rfl) (by kernel_rfl) (by kernel_rfl) (by kernel_rfl) (fun _ _ _ h => h) (by rfl) (fun _ _ => by go_simp) hS ?_
                  simp only [Act.put, List.setIfInBounds_toArray, List.set_cons_zero, List.set_cons_succ]
                  refine wpAnyL_take 8 46 (.pointer (some ⟨g, oo, none⟩)) [] rfl rfl (by kernel_rfl) (by kernel_rfl) (by kernel_rfl) (by kernel_rfl) (by kernel_rfl) (fun _ _ _ h => h) (by rfl) (fun _ _ => by go_simp) hS ?_
                  simp only [Act.put, List.setIfInBounds_toArray, List.set_cons_zero, List.set_cons_succ]
                  refine wpAnyL_take 9 47 (.pointer (some ⟨g, oo + 1, none⟩)) [] rfl rfl (by kernel_rfl) (by kernel_rfl) (by kernel_rfl) (by kernel_rfl) (by kernel_rfl) (fun _ _ _ h => h) (by rfl) (fun _ _ => by go_simp) hS ?_
                  simp only [Act.put, List.setIfInBounds_toArray, List.set_cons_zero, List.set_cons_succ]
                  refine wpAnyL_take 10 48 (.string xs) [] rfl rfl (by kernel_rfl) (by kernel_rfl) (by kernel_rfl) (by kernel_rfl) (by kernel_rfl) (fun _ _ _ h => h) (by rfl) (fun G hG => by obtain ⟨e0, e1⟩ := unhide HCA G hG; go_simp) hS ?_
                  simp only [Act.put, List.setIfInBounds_toArray, List.set_cons_zero, List.set_cons_succ]
                  refine wpAnyL_take 11 49 (.slice (some ⟨g2, o2, none⟩) m d) [] rfl rfl (by kernel_rfl) (by kernel_rfl) (by kernel_rfl) (by kernel_rfl) (by kernel_rfl) (fun _ _ _ h => h) (by rfl) (fun _ _ => by go_simp) hS ?_
                  simp only [Act.put, List.setIfInBounds_toArray, List.set_cons_zero, List.set_cons_succ]
                  refine wpAnyL_take 12 50 (.int .i64 (k : Int)) [] rfl rfl (by kernel_rfl) (by kernel_rfl) (by kernel_rfl) (by kernel_rfl) (by kernel_rfl) (fun _ _ _ h => h) (by rfl) (fun _ _ => by go_simp) hS ?_
                  simp only [Act.put, List.setIfInBounds_toArray, List.set_cons_zero, List.set_cons_succ]
                  refine wpAnyL_take 13 51 (.pointer (some ⟨g2, op, none⟩)) [] rfl rfl (by kernel_rfl) (by kernel_rfl) (by kernel_rfl) (by kernel_rfl) (by kernel_rfl) (fun _ _ _ h => h) (by rfl) (fun _ _ => by go_simp) hS ?_
                  simp only [Act.put, List.setIfInBounds_toArray, List.set_cons_zero, List.set_cons_succ]
                  refine wpAnyL_take 14 52 (.pointer (some ⟨g2, op + 1, none⟩)) [] rfl rfl (by kernel_rfl) (by kernel_rfl) (by kernel_rfl) (by kernel_rfl) (by kernel_rfl) (fun _ _ _ h => h) (by rfl) (fun _ _ => by go_simp) hS ?_
                  simp only [Act.put, List.setIfInBounds_toArray, List.set_cons_zero, List.set_cons_succ]
                  refine wpAnyL_take 15 53 (.string ys) [] rfl rfl (by kernel_rfl) (by kernel_rfl) (by kernel_rfl) (by kernel_rfl) (by kernel_rfl) (fun _ _ _ h => h) (by rfl) (fun G hG => by obtain ⟨e0, e1⟩ := unhide HCB G hG; go_simp) hS ?_
                  simp only [Act.put, List.setIfInBounds_toArray, List.set_cons_zero, List.set_cons_succ]
                  refine wpAnyL_take 16 54 (.agg #[.string xk, .string xs, .string ys]) [] rfl rfl (by kernel_rfl) (by kernel_rfl) (by kernel_rfl) (by kernel_rfl) (by kernel_rfl) (fun _ _ _ h => h) (by rfl) (fun _ _ => by go_simp) hS ?_
                  simp only [Act.put, List.setIfInBounds_toArray, List.set_cons_zero, List.set_cons_succ]
                  refine wpAnyL_one (i := 17) (by kernel_rfl) rfl (by rfl) fun K hK => ?_
                  refine wp_buildTo (by rfl) (.slice (some ⟨X0.heap.size, 0, none⟩) 1 1) (X0.alloc (.cells #[.string xk, .string xs, .string ys] 41)) (by simp only [List.map_toArray, List.map_cons, List.map_nil]; exact bsD X0 xk xs ys) (some 55) (by rfl) ?_
                  have HI1 : Hid (Below u.heap.size u (X0.alloc (.cells #[.string xk, .string xs, .string ys] 41))) := hS.alloc hS.size _
                  have HO1 : Hid (RD.Own (X0.alloc (.cells #[.string xk, .string xs, .string ys] 41)) u.heap.size acc xo cc) := (unhide HO0).below ((Below.refl _ _).alloc (Nat.le_refl _) _)
                  have HA1 : Hid (RD.At (X0.alloc (.cells #[.string xk, .string xs, .string ys] 41)) [(xk, xs, ys)] (some ⟨X0.heap.size, 0, none⟩) 1) := RD.one X0 (xk, xs, ys) _
                  refine hK _ _ (fun _ => unhide HI1) ?_
                  clear hK K
                  simp only [Act.put, List.setIfInBounds_toArray, List.set_cons_zero, List.set_cons_succ]
                  generalize X0.alloc (.cells #[.string xk, .string xs, .string ys] 41) = X1 at HI1 HO1 HA1 ⊢
                  refine wpAnyL_one (i := 18) (by kernel_rfl) rfl (by rfl) fun K hK => ?_
                  refine wp_putD (.tmp 38) (.tmp 55) (by rfl) (some 56) (by rfl) u.heap.size acc [(xk, xs, ys)] m0 1 (unhide HML) rfl xo (some ⟨X0.heap.size, 0, none⟩) cc 1 (by with_unfolding_all rfl) (by with_unfolding_all rfl) (unhide HO1) (unhide HA1) (unhide HLL (xk, xs, ys)) (unhide HI1).size ?_
                  intro x4 n4 c4 X4 HP4
                  have HI4 : Hid (Below u.heap.size u X4) := (unhide HI1).trans (unhide HP4).below
                  refine hK _ _ (fun _ => unhide HI4) ?_
                  clear hK K
                  simp only [Act.put, List.setIfInBounds_toArray, List.set_cons_zero, List.set_cons_succ]
                  refine wpAnyL_one (i := 19) (by kernel_rfl) rfl (by rfl) fun K hK => ?_
                  refine wp_val (.slice x4 n4 c4) (by go_simp) (some 6) (by rfl) ?_
                  refine hK _ _ (fun _ => unhide HI4) ?_
                  clear hK K
                  simp only [Act.put, List.setIfInBounds_toArray, List.set_cons_zero, List.set_cons_succ]
                  refine wpAnyL_done (by kernel_rfl) ?_ _
                  go_wp2
                  go_roundw
                  case rel => exact ⟨i + 1, k + 1, n4, c4, x4, acc ++ [(xk, xs, ys)], by omega, by omega, by go_num, by go_num, rfl, (unhide HP4).len, unhide HN, (unhide HP4).own, unhide HI4⟩
                  case measure => simp [intOf]; omega
          · obtain rfl : k = m := by omega
            have hkk : ¬ (k : Int) < (k : Int) := by omega
            have hkg : (k : Int) ≥ (k : Int) := by omega
            obtain ⟨g, o, hao, HCA⟩ := unhide HCA i hil
            rw [hao] at *
            replace HCA := hide HCA
            have hix := ixE g o n c i hi
            have HN := hide (DI.l (unhide HAC) hil (unhide HSA i hil) (.inl (by rw [← unhide HNB]; exact Nat.le_refl _)))
            clear HSA HSB HAC HCB
            generalize a[i] = x at *
            obtain ⟨xk, xs⟩ := x
            have HCA : Hid (∀ G : World, Below u.heap.size u G → G.cell? ⟨g, o + i * 2, none⟩ = some (.string xk) ∧ G.cell? ⟨g, o + i * 2 + 1, none⟩ = some (.string xs)) := HCA
            generalize o + i * 2 = oo at *
            obtain ⟨ca0, ca1⟩ := unhide HCA wr (unhide HI)
            have HN : Hid ((acc ++ [(xk, xs, ⟨#[]⟩)]) ++ difs (mgE (a.drop (i + 1)) (b.drop k)) = dl) := HN
            go_wp2_with fail
            refine wp_region_last (fun G => Below u.heap.size u G) 23 hmix (belowDrew (unhide HI)) fun hS => ?_
            have HOY1 : Hid (RD.Own wr.drew u.heap.size acc xo cc) := (unhide HO).below (belowDrew (Below.refl _ _))
            generalize wr.drew = Y1 at hS HOY1 ⊢
            refine wpAnyL_take 0 62 (.int .i64 (k : Int)) [3, 4, 9] rfl rfl (by kernel_rfl) (by kernel_rfl) (by kernel_rfl) (by kernel_rfl) (by kernel_rfl) (fun _ _ _ h => h) (by rfl) (fun _ _ => by go_simp) hS ?_
            simp only [Act.put, List.setIfInBounds_toArray, List.set_cons_zero, List.set_cons_succ]
            refine wpAnyL_take 1 63 (.slice bo k d) [2, 3, 4, 9] rfl rfl (by kernel_rfl) (by kernel_rfl) (by kernel_rfl) (by kernel_rfl) (by kernel_rfl) (fun _ _ _ h => h) (by rfl) (fun _ _ => by go_simp) hS ?_
            simp only [Act.put, List.setIfInBounds_toArray, List.set_cons_zero, List.set_cons_succ]
            refine wpAnyL_take 2 64 (.int .i64 (k : Int)) [3, 4, 9] rfl rfl (by kernel_rfl) (by kernel_rfl) (by kernel_rfl) (by kernel_rfl) (by kernel_rfl) (fun _ _ _ h => h) (by rfl) (fun _ _ => by go_simp) hS ?_
            simp only [Act.put, List.setIfInBounds_toArray, List.set_cons_zero, List.set_cons_succ]
            refine wpAnyL_take 3 65 (.bool true) [4, 9] rfl rfl (by kernel_rfl) (by kernel_rfl) (by kernel_rfl) (by kernel_rfl) (by kernel_rfl) (fun _ _ _ h => h) (by rfl) (fun _ _ => by go_simp) hS ?_
            simp only [Act.put, List.setIfInBounds_toArray, List.set_cons_zero, List.set_cons_succ]
            refine wpAnyL_take 4 66 (.bool true) [9] rfl rfl (by kernel_rfl) (by kernel_rfl) (by kernel_rfl) (by kernel_rfl) (by kernel_rfl) (fun _ _ _ h => h) (by rfl) (fun _ _ => by go_simp) hS ?_
            simp only [Act.put, List.setIfInBounds_toArray, List.set_cons_zero, List.set_cons_succ]
            refine wpAnyL_skip 5 67 [8, 9] rfl rfl (by kernel_rfl) (by kernel_rfl) (by kernel_rfl) (by kernel_rfl) (by kernel_rfl) (fun _ _ _ h => h) (by rfl) hS ?_
            simp only [Act.put, List.setIfInBounds_toArray, List.set_cons_zero, List.set_cons_succ]
            refine wpAnyL_skip 6 68 [7, 8, 9] rfl rfl (by kernel_rfl) (by kernel_rfl) (by kernel_rfl) (by kernel_rfl) (by kernel_rfl) (fun _ _ _ h => h) (by rfl) hS ?_
            simp only [Act.put, List.setIfInBounds_toArray, List.set_cons_zero, List.set_cons_succ]
            refine wpAnyL_skip 7 69 [8, 9] rfl rfl (by kernel_rfl) (by kernel_rfl) (by kernel_rfl) (by kernel_rfl) (by kernel_rfl) (fun _ _ _ h => h) (by rfl) hS ?_
            simp only [Act.put, List.setIfInBounds_toArray, List.set_cons_zero, List.set_cons_succ]
            refine wpAnyL_skip 8 70 [9] rfl rfl (by kernel_rfl) (by kernel_rfl) (by kernel_rfl) (by kernel_rfl) (by kernel_rfl) (fun _ _ _ h => h) (by rfl) hS ?_
            simp only [Act.put, List.setIfInBounds_toArray, List.set_cons_zero, List.set_cons_succ]
            refine wpAnyL_skip 9 71 [] rfl rfl (by kernel_rfl) (by kernel_rfl) (by kernel_rfl) (by kernel_rfl) (by kernel_rfl) (fun _ _ _ h => h) (by rfl) hS ?_
            simp only [Act.put, List.setIfInBounds_toArray, List.set_cons_zero, List.set_cons_succ]
            refine wpAnyL_skip 10 72 [12, 13, 14, 20, 21, 22] rfl rfl (by kernel_rfl) (by kernel_rfl) (by kernel_rfl) (by kernel_rfl) (by kernel_rfl) (fun _ _ _ h => h) (by rfl) hS ?_
            simp only [Act.put, List.setIfInBounds_toArray, List.set_cons_zero, List.set_cons_succ]
            refine wpAnyL_skip 11 73 [12, 13, 14, 20, 21, 22] rfl rfl (by kernel_rfl) (by kernel_rfl) (by kernel_rfl) (by kernel_rfl) (by kernel_rfl) (fun _ _ _ h => h) (by rfl) hS ?_
            simp only [Act.put, List.setIfInBounds_toArray, List.set_cons_zero, List.set_cons_succ]
            refine wpAnyL_skip 12 74 [13, 14, 20, 21, 22] rfl rfl (by kernel_rfl) (by kernel_rfl) (by kernel_rfl) (by kernel_rfl) (by kernel_rfl) (fun _ _ _ h => h) (by rfl) hS ?_
            simp only [Act.put, List.setIfInBounds_toArray, List.set_cons_zero, List.set_cons_succ]
            refine wpAnyL_skip 13 75 [14, 20, 21, 22] rfl rfl (by kernel_rfl) (by kernel_rfl) (by kernel_rfl) (by kernel_rfl) (by kernel_rfl) (fun _ _ _ h => h) (by rfl) hS ?_
            simp only [Act.put, List.setIfInBounds_toArray, List.set_cons_zero, List.set_cons_succ]
            refine wpAnyL_skip 14 76 [20, 21, 22] rfl rfl (by kernel_rfl) (by kernel_rfl) (by kernel_rfl) (by kernel_rfl) (by kernel_rfl) (fun _ _ _ h => h) (by rfl) hS ?_
            simp only [Act.put, List.setIfInBounds_toArray, List.set_cons_zero, List.set_cons_succ]
            refine wpAnyL_skip 15 77 [17, 18, 19, 20, 21, 22] rfl rfl (by kernel_rfl) (by kernel_rfl) (by kernel_rfl) (by kernel_rfl) (by kernel_rfl) (fun _ _ _ h => h) (by rfl) hS ?_
            simp only [Act.put, List.setIfInBounds_toArray, List.set_cons_zero, List.set_cons_succ]
            refine wpAnyL_skip 16 78 [17, 18, 19, 20, 21, 22] rfl rfl (by kernel_rfl) (by kernel_rfl) (by kernel_rfl) (by kernel_rfl) (by kernel_rfl) (fun _ _ _ h => h) (by rfl) hS ?_
            simp only [Act.put, List.setIfInBounds_toArray, List.set_cons_zero, List.set_cons_succ]
            refine wpAnyL_skip 17 79 [18, 19, 20, 21, 22] rfl rfl (by kernel_rfl) (by kernel_rfl) (by kernel_rfl) (by kernel_rfl) (by kernel_rfl) (fun _ _ _ h => h) (by rfl) hS ?_
            simp only [Act.put, List.setIfInBounds_toArray, List.set_cons_zero, List.set_cons_succ]
            refine wpAnyL_skip 18 80 [19, 20, 21, 22] rfl rfl (by kernel_rfl) (by kernel_rfl) (by kernel_rfl) (by kernel_rfl) (by kernel_rfl) (fun _ _ _ h => h) (by rfl) hS ?_
            simp only [Act.put, List.setIfInBounds_toArray, List.set_cons_zero, List.set_cons_succ]
            refine wpAnyL_skip 19 81 [20, 21, 22] rfl rfl (by kernel_rfl) (by kernel_rfl) (by kernel_rfl) (by kernel_rfl) (by kernel_rfl) (fun _ _ _ h => h) (by rfl) hS ?_
            simp only [Act.put, List.setIfInBounds_toArray, List.set_cons_zero, List.set_cons_succ]
            refine wpAnyL_skip 20 82 [21, 22] rfl rfl (by kernel_rfl) (by kernel_rfl) (by kernel_rfl) (by kernel_rfl) (by kernel_rfl) (fun _ _ _ h => h) (by rfl) hS ?_
            simp only [Act.put, List.setIfInBounds_toArray, List.set_cons_zero, List.set_cons_succ]
            refine wpAnyL_skip 21 83 [22] rfl rfl (by kernel_rfl) (by kernel_rfl) (by kernel_rfl) (by kernel_rfl) (by kernel_rfl) (fun _ _ _ h => h) (by rfl) hS ?_
            simp only [Act.put, List.setIfInBounds_toArray, List.set_cons_zero, List.set_cons_succ]
            refine wpAnyL_take 22 84 (.bool true) [] rfl rfl (by kernel_rfl) (by kernel_rfl) (by kernel_rfl) (by kernel_rfl) (by kernel_rfl) (fun _ _ _ h => h) (by rfl) (fun _ _ => by go_simp) hS ?_
            simp only [Act.put, List.setIfInBounds_toArray, List.set_cons_zero, List.set_cons_succ]
            refine wpAnyL_one (i := 23) (by kernel_rfl) rfl (by rfl) fun K hK => ?_
            refine wp_val (.bool true) (by go_simp) (some 61) (by rfl) ?_
            refine hK _ _ (fun _ => hS) ?_
            clear hK K
            simp only [Act.put, List.setIfInBounds_toArray, List.set_cons_zero, List.set_cons_succ]
            refine wpAnyL_done (by kernel_rfl) ?_ _
            have HIY1 := hide hS
            clear hS
            obtain ⟨ca0Y1, ca1Y1⟩ := unhide HCA Y1 (unhide HIY1)
            go_wp2_with fail
            refine wp_region_last (fun G => Below u.heap.size u G) 14 hmix (belowDrew (unhide HIY1)) fun hS => ?_
            have HO0 : Hid (RD.Own Y1.drew u.heap.size acc xo cc) := (unhide HOY1).below (belowDrew (Below.refl _ _))
            generalize Y1.drew = X0 at hS HO0 ⊢
            refine wpAnyL_take 0 85 (.slice xo m0 cc) [] rfl rfl (by kernel_rfl) (by kernel_rfl) (by kernel_rfl) (by kernel_rfl) (by kernel_rfl) (fun _ _ _ h => h) (by rfl) (fun _ _ => by go_simp) hS ?_
            simp only [Act.put, List.setIfInBounds_toArray, List.set_cons_zero, List.set_cons_succ]
            refine wpAnyL_take 1 86 (.slice (some ⟨g, o, none⟩) n c) [] rfl rfl (by kernel_rfl) (by kernel_rfl) (by kernel_rfl) (by kernel_rfl) (by kernel_rfl) (fun _ _ _ h => h) (by rfl) (fun _ _ => by go_simp) hS ?_
            simp only [Act.put, List.setIfInBounds_toArray, List.set_cons_zero, List.set_cons_succ]
            refine wpAnyL_take 2 87 (.int .i64 (i : Int)) [] rfl rfl (by kernel_rfl) (by kernel_rfl) (by kernel_rfl) (by kernel_rfl) (by kernel_rfl) (fun _ _ _ h => h) (by rfl) (fun _ _ => by go_simp) hS ?_
            simp only [Act.put, List.setIfInBounds_toArray, List.set_cons_zero, List.set_cons_succ]
            refine wpAnyL_take 3 88 (.pointer (some ⟨g, oo, none⟩)) [] rfl rfl (by kernel_rfl) (by kernel_rfl) (by kernel_rfl) (by kernel_rfl) (by kernel_rfl) (fun _ _ _ h => h) (by rfl) (fun _ _ => by go_simp) hS ?_
            simp only [Act.put, List.setIfInBounds_toArray, List.set_cons_zero, List.set_cons_succ]
            refine wpAnyL_take 4 89 (.pointer (some ⟨g, oo, none⟩)) [] rfl rfl (by kernel_rfl) (by kernel_rfl) (by kernel_rfl) (by kernel_rfl) (by kernel_rfl) (fun _ _ _ h => h) (by rfl) (fun _ _ => by go_simp) hS ?_
            simp only [Act.put, List.setIfInBounds_toArray, List.set_cons_zero, List.set_cons_succ]
            refine wpAnyL_take 5 90 (.string xk) [] rfl rfl (by kernel_rfl) (by kernel_rfl) (by kernel_rfl) (by kernel_rfl) (by kernel_rfl) (fun _ _ _ h => h) (by rfl) (fun G hG => by obtain ⟨e0, e1⟩ := unhide HCA G hG; go_simp) hS ?_
            simp only [Act.put, List.setIfInBounds_toArray, List.set_cons_zero, List.set_cons_succ]
            refine wpAnyL_take 6 91 (.slice (some ⟨g, o, none⟩) n c) [] rfl rfl (by kernel_rfl) (by kernel_rfl) (by kernel_rfl) (by kernel_rfl) (by kernel_rfl) (fun _ _ _ h => h) (by rfl) (fun _ _ => by go_simp) hS ?_
            simp only [Act.put, List.setIfInBounds_toArray, List.set_cons_zero, List.set_cons_succ]
            refine wpAnyL_take 7 92 (.int .i64 (i : Int)) [] rfl rfl (by kernel_rfl) (by kernel_rfl) (by kernel_rfl) (by kernel_rfl) (by kernel_rfl) (fun _ _ _ h => h) (by rfl) (fun _ _ => by go_simp) hS ?_
            simp only [Act.put, List.setIfInBounds_toArray, List.set_cons_zero, List.set_cons_succ]
            refine wpAnyL_take 8 93 (.pointer (some ⟨g, oo, none⟩)) [] rfl rfl (by kernel_rfl) (by kernel_rfl) (by kernel_rfl) (by kernel_rfl) (by kernel_rfl) (fun _ _ _ h => h) (by rfl) (fun _ _ => by go_simp) hS ?_
            simp only [Act.put, List.setIfInBounds_toArray, List.set_cons_zero, List.set_cons_succ]
            refine wpAnyL_take 9 94 (.pointer (some ⟨g, oo + 1, none⟩)) [] rfl rfl (by kernel_rfl) (by kernel_rfl) (by kernel_rfl) (by kernel_rfl) (by kernel_rfl) (fun _ _ _ h => h) (by rfl) (fun _ _ => by go_simp) hS ?_
            simp only [Act.put, List.setIfInBounds_toArray, List.set_cons_zero, List.set_cons_succ]
            refine wpAnyL_take 10 95 (.string xs) [] rfl rfl (by kernel_rfl) (by kernel_rfl) (by kernel_rfl) (by kernel_rfl) (by kernel_rfl) (fun _ _ _ h => h) (by rfl) (fun G hG => by obtain ⟨e0, e1⟩ := unhide HCA G hG; go_simp) hS ?_
            simp only [Act.put, List.setIfInBounds_toArray, List.set_cons_zero, List.set_cons_succ]
            refine wpAnyL_take 11 96 (.agg #[.string xk, .string xs, .string ⟨#[]⟩]) [] rfl rfl (by kernel_rfl) (by kernel_rfl) (by kernel_rfl) (by kernel_rfl) (by kernel_rfl) (fun _ _ _ h => h) (by rfl) (fun _ _ => by go_simp) hS ?_
            simp only [Act.put, List.setIfInBounds_toArray, List.set_cons_zero, List.set_cons_succ]
            refine wpAnyL_one (i := 12) (by kernel_rfl) rfl (by rfl) fun K hK => ?_
            refine wp_buildTo (by rfl) (.slice (some ⟨X0.heap.size, 0, none⟩) 1 1) (X0.alloc (.cells #[.string xk, .string xs, .string ⟨#[]⟩] 41)) (by simp only [List.map_toArray, List.map_cons, List.map_nil]; exact bsD X0 xk xs ⟨#[]⟩) (some 97) (by rfl) ?_
            have HI1 : Hid (Below u.heap.size u (X0.alloc (.cells #[.string xk, .string xs, .string ⟨#[]⟩] 41))) := hS.alloc hS.size _
            have HO1 : Hid (RD.Own (X0.alloc (.cells #[.string xk, .string xs, .string ⟨#[]⟩] 41)) u.heap.size acc xo cc) := (unhide HO0).below ((Below.refl _ _).alloc (Nat.le_refl _) _)
            have HA1 : Hid (RD.At (X0.alloc (.cells #[.string xk, .string xs, .string ⟨#[]⟩] 41)) [(xk, xs, ⟨#[]⟩)] (some ⟨X0.heap.size, 0, none⟩) 1) := RD.one X0 (xk, xs, ⟨#[]⟩) _
            refine hK _ _ (fun _ => unhide HI1) ?_
            clear hK K
            simp only [Act.put, List.setIfInBounds_toArray, List.set_cons_zero, List.set_cons_succ]
            generalize X0.alloc (.cells #[.string xk, .string xs, .string ⟨#[]⟩] 41) = X1 at HI1 HO1 HA1 ⊢
            refine wpAnyL_one (i := 13) (by kernel_rfl) rfl (by rfl) fun K hK => ?_
            refine wp_putD (.tmp 85) (.tmp 97) (by rfl) (some 98) (by rfl) u.heap.size acc [(xk, xs, ⟨#[]⟩)] m0 1 (unhide HML) rfl xo (some ⟨X0.heap.size, 0, none⟩) cc 1 (by with_unfolding_all rfl) (by with_unfolding_all rfl) (unhide HO1) (unhide HA1) (unhide HLL (xk, xs, ⟨#[]⟩)) (unhide HI1).size ?_
            intro x4 n4 c4 X4 HP4
            have HI4 : Hid (Below u.heap.size u X4) := (unhide HI1).trans (unhide HP4).below
            refine hK _ _ (fun _ => unhide HI4) ?_
            clear hK K
            simp only [Act.put, List.setIfInBounds_toArray, List.set_cons_zero, List.set_cons_succ]
            refine wpAnyL_one (i := 14) (by kernel_rfl) rfl (by rfl) fun K hK => ?_
            refine wp_val (.slice x4 n4 c4) (by go_simp) (some 6) (by rfl) ?_
            refine hK _ _ (fun _ => unhide HI4) ?_
            clear hK K
            simp only [Act.put, List.setIfInBounds_toArray, List.set_cons_zero, List.set_cons_succ]
            refine wpAnyL_done (by kernel_rfl) ?_ _
            go_wp2
            go_roundw
            case rel => exact ⟨i + 1, k, n4, c4, x4, acc ++ [((xk, xs, (⟨#[]⟩ : ByteArray)) : Df)], by omega, hkm, by go_num, rfl, rfl, (unhide HP4).len, unhide HN, (unhide HP4).own, unhide HI4⟩
            case measure => simp [intOf]; omega
        · obtain rfl : i = n := by omega
          have hii : ¬ (i : Int) < (i : Int) := by omega
          by_cases hk : k < m
          · have hkk : (k : Int) < (m : Int) := by omega
            have hkl : k < b.length := by rw [← unhide HNB]; exact hk
            have hkg : ¬ (k : Int) ≥ (m : Int) := by omega
            obtain ⟨g2, o2, hbo, HCB⟩ := unhide HCB k hkl
            rw [hbo] at *
            replace HCB := hide HCB
            have hix2 := ixE g2 o2 m d k hk
            have hig : (i : Int) ≥ (i : Int) := by omega
            have HN := hide (DI.r (unhide HAC) hkl (unhide HSB k hkl) (.inl (by rw [← unhide HNA]; exact Nat.le_refl _)))
            clear HSA HSB HAC HCA
            generalize b[k] = y at *
            obtain ⟨yk, ys⟩ := y
            have HCB : Hid (∀ G : World, Below u.heap.size u G → G.cell? ⟨g2, o2 + k * 2, none⟩ = some (.string yk) ∧ G.cell? ⟨g2, o2 + k * 2 + 1, none⟩ = some (.string ys)) := HCB
            generalize o2 + k * 2 = op at *
            obtain ⟨cb0, cb1⟩ := unhide HCB wr (unhide HI)
            have HN : Hid ((acc ++ [(yk, ⟨#[]⟩, ys)]) ++ difs (mgE (a.drop i) (b.drop (k + 1))) = dl) := HN
            go_wp2_with fail
            refine wp_region_last (fun G => Below u.heap.size u G) 23 hmix (belowDrew (unhide HI)) fun hS => ?_
            have HOY1 : Hid (RD.Own wr.drew u.heap.size acc xo cc) := (unhide HO).below (belowDrew (Below.refl _ _))
            generalize wr.drew = Y1 at hS HOY1 ⊢
            refine wpAnyL_take 0 62 (.int .i64 (k : Int)) [3, 4, 9] rfl rfl (by kernel_rfl) (by kernel_rfl) (by kernel_rfl) (by kernel_rfl) (by kernel_rfl) (fun _ _ _ h => h) (by rfl) (fun _ _ => by go_simp) hS ?_
            simp only [Act.put, List.setIfInBounds_toArray, List.set_cons_zero, List.set_cons_succ]
            refine wpAnyL_take 1 63 (.slice (some ⟨g2, o2, none⟩) m d) [2, 3, 4, 9] rfl rfl (by kernel_rfl) (by kernel_rfl) (by kernel_rfl) (by kernel_rfl) (by kernel_rfl) (fun _ _ _ h => h) (by rfl) (fun _ _ => by go_simp) hS ?_
            simp only [Act.put, List.setIfInBounds_toArray, List.set_cons_zero, List.set_cons_succ]
            refine wpAnyL_take 2 64 (.int .i64 (m : Int)) [3, 4, 9] rfl rfl (by kernel_rfl) (by kernel_rfl) (by kernel_rfl) (by kernel_rfl) (by kernel_rfl) (fun _ _ _ h => h) (by rfl) (fun _ _ => by go_simp) hS ?_
            simp only [Act.put, List.setIfInBounds_toArray, List.set_cons_zero, List.set_cons_succ]
            refine wpAnyL_take 3 65 (.bool false) [4, 9] rfl rfl (by kernel_rfl) (by kernel_rfl) (by kernel_rfl) (by kernel_rfl) (by kernel_rfl) (fun _ _ _ h => h) (by rfl) (fun _ _ => by go_simp) hS ?_
            simp only [Act.put, List.setIfInBounds_toArray, List.set_cons_zero, List.set_cons_succ]
            refine wpAnyL_take 4 66 (.bool false) [9] rfl rfl (by kernel_rfl) (by kernel_rfl) (by kernel_rfl) (by kernel_rfl) (by kernel_rfl) (fun _ _ _ h => h) (by rfl) (fun _ _ => by go_simp) hS ?_
            simp only [Act.put, List.setIfInBounds_toArray, List.set_cons_zero, List.set_cons_succ]
            refine wpAnyL_take 5 67 (.int .i64 (i : Int)) [8, 9] rfl rfl (by kernel_rfl) (by kernel_rfl) (by kernel_rfl) (by kernel_rfl) (by kernel_rfl) (fun _ _ _ h => h) (by rfl) (fun _ _ => by go_simp) hS ?_
            simp only [Act.put, List.setIfInBounds_toArray, List.set_cons_zero, List.set_cons_succ]
            refine wpAnyL_take 6 68 (.slice ao i c) [7, 8, 9] rfl rfl (by kernel_rfl) (by kernel_rfl) (by kernel_rfl) (by kernel_rfl) (by kernel_rfl) (fun _ _ _ h => h) (by rfl) (fun _ _ => by go_simp) hS ?_
            simp only [Act.put, List.setIfInBounds_toArray, List.set_cons_zero, List.set_cons_succ]
            refine wpAnyL_take 7 69 (.int .i64 (i : Int)) [8, 9] rfl rfl (by kernel_rfl) (by kernel_rfl) (by kernel_rfl) (by kernel_rfl) (by kernel_rfl) (fun _ _ _ h => h) (by rfl) (fun _ _ => by go_simp) hS ?_
            simp only [Act.put, List.setIfInBounds_toArray, List.set_cons_zero, List.set_cons_succ]
            refine wpAnyL_take 8 70 (.bool false) [9] rfl rfl (by kernel_rfl) (by kernel_rfl) (by kernel_rfl) (by kernel_rfl) (by kernel_rfl) (fun _ _ _ h => h) (by rfl) (fun _ _ => by go_simp) hS ?_
            simp only [Act.put, List.setIfInBounds_toArray, List.set_cons_zero, List.set_cons_succ]
            refine wpAnyL_take 9 71 (.bool false) [] rfl rfl (by kernel_rfl) (by kernel_rfl) (by kernel_rfl) (by kernel_rfl) (by kernel_rfl) (fun _ _ _ h => h) (by rfl) (fun _ _ => by go_simp) hS ?_
            simp only [Act.put, List.setIfInBounds_toArray, List.set_cons_zero, List.set_cons_succ]
            refine wpAnyL_skip 10 72 [12, 13, 14, 20, 21, 22] rfl rfl (by kernel_rfl) (by kernel_rfl) (by kernel_rfl) (by kernel_rfl) (by kernel_rfl) (fun _ _ _ h => h) (by rfl) hS ?_
            simp only [Act.put, List.setIfInBounds_toArray, List.set_cons_zero, List.set_cons_succ]
            refine wpAnyL_skip 11 73 [12, 13, 14, 20, 21, 22] rfl rfl (by kernel_rfl) (by kernel_rfl) (by kernel_rfl) (by kernel_rfl) (by kernel_rfl) (fun _ _ _ h => h) (by rfl) hS ?_
            simp only [Act.put, List.setIfInBounds_toArray, List.set_cons_zero, List.set_cons_succ]
            refine wpAnyL_skip 12 74 [13, 14, 20, 21, 22] rfl rfl (by kernel_rfl) (by kernel_rfl) (by kernel_rfl) (by kernel_rfl) (by kernel_rfl) (fun _ _ _ h => h) (by rfl) hS ?_
            simp only [Act.put, List.setIfInBounds_toArray, List.set_cons_zero, List.set_cons_succ]
            refine wpAnyL_skip 13 75 [14, 20, 21, 22] rfl rfl (by kernel_rfl) (by kernel_rfl) (by kernel_rfl) (by kernel_rfl) (by kernel_rfl) (fun _ _ _ h => h) (by rfl) hS ?_
            simp only [Act.put, List.setIfInBounds_toArray, List.set_cons_zero, List.set_cons_succ]
            refine wpAnyL_skip 14 76 [20, 21, 22] rfl rfl (by kernel_rfl) (by kernel_rfl) (by kernel_rfl) (by kernel_rfl) (by kernel_rfl) (fun _ _ _ h => h) (by rfl) hS ?_
            simp only [Act.put, List.setIfInBounds_toArray, List.set_cons_zero, List.set_cons_succ]
            refine wpAnyL_skip 15 77 [17, 18, 19, 20, 21, 22] rfl rfl (by kernel_rfl) (by kernel_rfl) (by kernel_rfl) (by kernel_rfl) (by kernel_rfl) (fun _ _ _ h => h) (by rfl) hS ?_
            simp only [Act.put, List.setIfInBounds_toArray, List.set_cons_zero, List.set_cons_succ]
            refine wpAnyL_skip 16 78 [17, 18, 19, 20, 21, 22] rfl rfl (by kernel_rfl) (by kernel_rfl) (by kernel_rfl) (by kernel_rfl) (by kernel_rfl) (fun _ _ _ h => h) (by rfl) hS ?_
            simp only [Act.put, List.setIfInBounds_toArray, List.set_cons_zero, List.set_cons_succ]
            refine wpAnyL_skip 17 79 [18, 19, 20, 21, 22] rfl rfl (by kernel_rfl) (by kernel_rfl) (by kernel_rfl) (by kernel_rfl) (by kernel_rfl) (fun _ _ _ h => h) (by rfl) hS ?_
            simp only [Act.put, List.setIfInBounds_toArray, List.set_cons_zero, List.set_cons_succ]
            refine wpAnyL_skip 18 80 [19, 20, 21, 22] rfl rfl (by kernel_rfl) (by kernel_rfl) (by kernel_rfl) (by kernel_rfl) (by kernel_rfl) (fun _ _ _ h => h) (by rfl) hS ?_
            simp only [Act.put, List.setIfInBounds_toArray, List.set_cons_zero, List.set_cons_succ]
            refine wpAnyL_skip 19 81 [20, 21, 22] rfl rfl (by kernel_rfl) (by kernel_rfl) (by kernel_rfl) (by kernel_rfl) (by kernel_rfl) (fun _ _ _ h => h) (by rfl) hS ?_
            simp only [Act.put, List.setIfInBounds_toArray, List.set_cons_zero, List.set_cons_succ]
            refine wpAnyL_skip 20 82 [21, 22] rfl rfl (by kernel_rfl) (by kernel_rfl) (by kernel_rfl) (by kernel_rfl) (by kernel_rfl) (fun _ _ _ h => h) (by rfl) hS ?_
            simp only [Act.put, List.setIfInBounds_toArray, List.set_cons_zero, List.set_cons_succ]
            refine wpAnyL_take 21 83 (.bool false) [22] rfl rfl (by kernel_rfl) (by kernel_rfl) (by kernel_rfl) (by kernel_rfl) (by kernel_rfl) (fun _ _ _ h => h) (by rfl) (fun _ _ => by go_simp) hS ?_
            simp only [Act.put, List.setIfInBounds_toArray, List.set_cons_zero, List.set_cons_succ]
            refine wpAnyL_take 22 84 (.bool false) [] rfl rfl (by kernel_rfl) (by kernel_rfl) (by kernel_rfl) (by kernel_rfl) (by kernel_rfl) (fun _ _ _ h => h) (by rfl) (fun _ _ => by go_simp) hS ?_
            simp only [Act.put, List.setIfInBounds_toArray, List.set_cons_zero, List.set_cons_succ]
            refine wpAnyL_one (i := 23) (by kernel_rfl) rfl (by rfl) fun K hK => ?_
            refine wp_val (.bool false) (by go_simp) (some 61) (by rfl) ?_
            refine hK _ _ (fun _ => hS) ?_
            clear hK K
            simp only [Act.put, List.setIfInBounds_toArray, List.set_cons_zero, List.set_cons_succ]
            refine wpAnyL_done (by kernel_rfl) ?_ _
            have HIY1 := hide hS
            clear hS
            obtain ⟨cb0Y1, cb1Y1⟩ := unhide HCB Y1 (unhide HIY1)
            go_wp2_with fail
            refine wp_region_last (fun G => Below u.heap.size u G) 17 hmix (belowDrew (unhide HIY1)) fun hS => ?_
            have HOY2 : Hid (RD.Own Y1.drew u.heap.size acc xo cc) := (unhide HOY1).below (belowDrew (Below.refl _ _))
            generalize Y1.drew = Y2 at hS HOY2 ⊢
            refine wpAnyL_take 0 102 (.int .i64 (i : Int)) [3, 4] rfl rfl (by kernel_rfl) (by kernel_rfl) (by kernel_rfl) (by kernel_rfl) (by kernel_rfl) (fun _ _ _ h => h) (by rfl) (fun _ _ => by go_simp) hS ?_
            simp only [Act.put, List.setIfInBounds_toArray, List.set_cons_zero, List.set_cons_succ]
            refine wpAnyL_take 1 103 (.slice ao i c) [2, 3, 4] rfl rfl (by kernel_rfl) (by kernel_rfl) (by kernel_rfl) (by kernel_rfl) (by kernel_rfl) (fun _ _ _ h => h) (by rfl) (fun _ _ => by go_simp) hS ?_
            simp only [Act.put, List.setIfInBounds_toArray, List.set_cons_zero, List.set_cons_succ]
            refine wpAnyL_take 2 104 (.int .i64 (i : Int)) [3, 4] rfl rfl (by kernel_rfl) (by kernel_rfl) (by kernel_rfl) (by kernel_rfl) (by kernel_rfl) (fun _ _ _ h => h) (by rfl) (fun _ _ => by go_simp) hS ?_
            simp only [Act.put, List.setIfInBounds_toArray, List.set_cons_zero, List.set_cons_succ]
            refine wpAnyL_take 3 105 (.bool true) [4] rfl rfl (by kernel_rfl) (by kernel_rfl) (by kernel_rfl) (by kernel_rfl) (by kernel_rfl) (fun _ _ _ h => h) (by rfl) (fun _ _ => by go_simp) hS ?_
            simp only [Act.put, List.setIfInBounds_toArray, List.set_cons_zero, List.set_cons_succ]
            refine wpAnyL_take 4 106 (.bool true) [] rfl rfl (by kernel_rfl) (by kernel_rfl) (by kernel_rfl) (by kernel_rfl) (by kernel_rfl) (fun _ _ _ h => h) (by rfl) (fun _ _ => by go_simp) hS ?_
            simp only [Act.put, List.setIfInBounds_toArray, List.set_cons_zero, List.set_cons_succ]
            refine wpAnyL_skip 5 107 [7, 8, 9, 15, 16] rfl rfl (by kernel_rfl) (by kernel_rfl) (by kernel_rfl) (by kernel_rfl) (by kernel_rfl) (fun _ _ _ h => h) (by rfl) hS ?_
            simp only [Act.put, List.setIfInBounds_toArray, List.set_cons_zero, List.set_cons_succ]
            refine wpAnyL_skip 6 108 [7, 8, 9, 15, 16] rfl rfl (by kernel_rfl) (by kernel_rfl) (by kernel_rfl) (by kernel_rfl) (by kernel_rfl) (fun _ _ _ h => h) (by rfl) hS ?_
            simp only [Act.put, List.setIfInBounds_toArray, List.set_cons_zero, List.set_cons_succ]
            refine wpAnyL_skip 7 109 [8, 9, 15, 16] rfl rfl (by kernel_rfl) (by kernel_rfl) (by kernel_rfl) (by kernel_rfl) (by kernel_rfl) (fun _ _ _ h => h) (by rfl) hS ?_
            simp only [Act.put, List.setIfInBounds_toArray, List.set_cons_zero, List.set_cons_succ]
            refine wpAnyL_skip 8 110 [9, 15, 16] rfl rfl (by kernel_rfl) (by kernel_rfl) (by kernel_rfl) (by kernel_rfl) (by kernel_rfl) (fun _ _ _ h => h) (by rfl) hS ?_
            simp only [Act.put, List.setIfInBounds_toArray, List.set_cons_zero, List.set_cons_succ]
            refine wpAnyL_skip 9 111 [15, 16] rfl rfl (by kernel_rfl) (by kernel_rfl) (by kernel_rfl) (by kernel_rfl) (by kernel_rfl) (fun _ _ _ h => h) (by rfl) hS ?_
            simp only [Act.put, List.setIfInBounds_toArray, List.set_cons_zero, List.set_cons_succ]
            refine wpAnyL_skip 10 112 [12, 13, 14, 15, 16] rfl rfl (by kernel_rfl) (by kernel_rfl) (by kernel_rfl) (by kernel_rfl) (by kernel_rfl) (fun _ _ _ h => h) (by rfl) hS ?_
            simp only [Act.put, List.setIfInBounds_toArray, List.set_cons_zero, List.set_cons_succ]
            refine wpAnyL_skip 11 113 [12, 13, 14, 15, 16] rfl rfl (by kernel_rfl) (by kernel_rfl) (by kernel_rfl) (by kernel_rfl) (by kernel_rfl) (fun _ _ _ h => h) (by rfl) hS ?_
            simp only [Act.put, List.setIfInBounds_toArray, List.set_cons_zero, List.set_cons_succ]
            refine wpAnyL_skip 12 114 [13, 14, 15, 16] rfl rfl (by kernel_rfl) (by kernel_rfl) (by kernel_rfl) (by kernel_rfl) (by kernel_rfl) (fun _ _ _ h => h) (by rfl) hS ?_
            simp only [Act.put, List.setIfInBounds_toArray, List.set_cons_zero, List.set_cons_succ]
            refine wpAnyL_skip 13 115 [14, 15, 16] rfl rfl (by kernel_rfl) (by kernel_rfl) (by kernel_rfl) (by kernel_rfl) (by kernel_rfl) (fun _ _ _ h => h) (by rfl) hS ?_
            simp only [Act.put, List.setIfInBounds_toArray, List.set_cons_zero, List.set_cons_succ]
            refine wpAnyL_skip 14 116 [15, 16] rfl rfl (by kernel_rfl) (by kernel_rfl) (by kernel_rfl) (by kernel_rfl) (by kernel_rfl) (fun _ _ _ h => h) (by rfl) hS ?_
            simp only [Act.put, List.setIfInBounds_toArray, List.set_cons_zero, List.set_cons_succ]
            refine wpAnyL_skip 15 117 [16] rfl rfl (by kernel_rfl) (by kernel_rfl) (by kernel_rfl) (by kernel_rfl) (by kernel_rfl) (fun _ _ _ h => h) (by rfl) hS ?_
            simp only [Act.put, List.setIfInBounds_toArray, List.set_cons_zero, List.set_cons_succ]
            refine wpAnyL_take 16 118 (.bool true) [] rfl rfl (by kernel_rfl) (by kernel_rfl) (by kernel_rfl) (by kernel_rfl) (by kernel_rfl) (fun _ _ _ h => h) (by rfl) (fun _ _ => by go_simp) hS ?_
            simp only [Act.put, List.setIfInBounds_toArray, List.set_cons_zero, List.set_cons_succ]
            refine wpAnyL_one (i := 17) (by kernel_rfl) rfl (by rfl) fun K hK => ?_
            refine wp_val (.bool true) (by go_simp) (some 101) (by rfl) ?_
            refine hK _ _ (fun _ => hS) ?_
            clear hK K
            simp only [Act.put, List.setIfInBounds_toArray, List.set_cons_zero, List.set_cons_succ]
            refine wpAnyL_done (by kernel_rfl) ?_ _
            have HIY2 := hide hS
            clear hS
            obtain ⟨cb0Y2, cb1Y2⟩ := unhide HCB Y2 (unhide HIY2)
            go_wp2_with fail
            refine wp_region_last (fun G => Below u.heap.size u G) 14 hmix (belowDrew (unhide HIY2)) fun hS => ?_
            have HO0 : Hid (RD.Own Y2.drew u.heap.size acc xo cc) := (unhide HOY2).below (belowDrew (Below.refl _ _))
            generalize Y2.drew = X0 at hS HO0 ⊢
            refine wpAnyL_take 0 119 (.slice xo m0 cc) [] rfl rfl (by kernel_rfl) (by kernel_rfl) (by kernel_rfl) (by kernel_rfl) (by kernel_rfl) (fun _ _ _ h => h) (by rfl) (fun _ _ => by go_simp) hS ?_
            simp only [Act.put, List.setIfInBounds_toArray, List.set_cons_zero, List.set_cons_succ]
            refine wpAnyL_take 1 120 (.slice (some ⟨g2, o2, none⟩) m d) [] rfl rfl (by kernel_rfl) (by kernel_rfl) (by kernel_rfl) (by kernel_rfl) (by kernel_rfl) (fun _ _ _ h => h) (by rfl) (fun _ _ => by go_simp) hS ?_
            simp only [Act.put, List.setIfInBounds_toArray, List.set_cons_zero, List.set_cons_succ]
            refine wpAnyL_take 2 121 (.int .i64 (k : Int)) [] rfl rfl (by kernel_rfl) (by kernel_rfl) (by kernel_rfl) (by kernel_rfl) (by kernel_rfl) (fun _ _ _ h => h) (by rfl) (fun _ _ => by go_simp) hS ?_
            simp only [Act.put, List.setIfInBounds_toArray, List.set_cons_zero, List.set_cons_succ]
            refine wpAnyL_take 3 122 (.pointer (some ⟨g2, op, none⟩)) [] rfl rfl (by kernel_rfl) (by kernel_rfl) (by kernel_rfl) (by kernel_rfl) (by kernel_rfl) (fun _ _ _ h => h) (by rfl) (fun _ _ => by go_simp) hS ?_
            simp only [Act.put, List.setIfInBounds_toArray, List.set_cons_zero, List.set_cons_succ]
            refine wpAnyL_take 4 123 (.pointer (some ⟨g2, op, none⟩)) [] rfl rfl (by kernel_rfl) (by kernel_rfl) (by kernel_rfl) (by kernel_rfl) (by kernel_rfl) (fun _ _ _ h => h) (by rfl) (fun _ _ => by go_simp) hS ?_
            simp only [Act.put, List.setIfInBounds_toArray, List.set_cons_zero, List.set_cons_succ]
            refine wpAnyL_take 5 124 (.string yk) [] rfl rfl (by kernel_rfl) (by kernel_rfl) (by kernel_rfl) (by kernel_rfl) (by kernel_rfl) (fun _ _ _ h => h) (by rfl) (fun G hG => by obtain ⟨e0, e1⟩ := unhide HCB G hG; go_simp) hS ?_
            simp only [Act.put, List.setIfInBounds_toArray, List.set_cons_zero, List.set_cons_succ]
            refine wpAnyL_take 6 125 (.slice (some ⟨g2, o2, none⟩) m d) [] rfl rfl (by kernel_rfl) (by kernel_rfl) (by kernel_rfl) (by kernel_rfl) (by kernel_rfl) (fun _ _ _ h => h) (by rfl) (fun _ _ => by go_simp) hS ?_
            simp only [Act.put, List.setIfInBounds_toArray, List.set_cons_zero, List.set_cons_succ]
            refine wpAnyL_take 7 126 (.int .i64 (k : Int)) [] rfl rfl (by kernel_rfl) (by kernel_rfl) (by kernel_rfl) (by kernel_rfl) (by kernel_rfl) (fun _ _ _ h => h) (by rfl) (fun _ _ => by go_simp) hS ?_
            simp only [Act.put, List.setIfInBounds_toArray, List.set_cons_zero, List.set_cons_succ]
            refine wpAnyL_take 8 127 (.pointer (some ⟨g2, op, none⟩)) [] rfl rfl (by kernel_rfl) (by kernel_rfl) (by kernel_rfl) (by kernel_rfl) (by kernel_rfl) (fun _ _ _ h => h) (by rfl) (fun _ _ => by go_simp) hS ?_
            simp only [Act.put, List.setIfInBounds_toArray, List.set_cons_zero, List.set_cons_succ]
            refine wpAnyL_take 9 128 (.pointer (some ⟨g2, op + 1, none⟩)) [] rfl rfl (by kernel_rfl) (by kernel_rfl) (by kernel_rfl) (by kernel_rfl) (by kernel_rfl) (fun _ _ _ h => h) (by rfl) (fun _ _ => by go_simp) hS ?_
            simp only [Act.put, List.setIfInBounds_toArray, List.set_cons_zero, List.set_cons_succ]
            refine wpAnyL_take 10 129 (.string ys) [] rfl rfl (by kernel_rfl) (by kernel_rfl) (by kernel_rfl) (by kernel_rfl) (by kernel_rfl) (fun _ _ _ h => h) (by rfl) (fun G hG => by obtain ⟨e0, e1⟩ := unhide HCB G hG; go_simp) hS ?_
            simp only [Act.put, List.setIfInBounds_toArray, List.set_cons_zero, List.set_cons_succ]
            refine wpAnyL_take 11 130 (.agg #[.string yk, .string ⟨#[]⟩, .string ys]) [] rfl rfl (by kernel_rfl) (by kernel_rfl) (by kernel_rfl) (by kernel_rfl) (by kernel_rfl) (fun _ _ _ h => h) (by rfl) (fun _ _ => by go_simp) hS ?_
            simp only [Act.put, List.setIfInBounds_toArray, List.set_cons_zero, List.set_cons_succ]
            refine wpAnyL_one (i := 12) (by kernel_rfl) rfl (by rfl) fun K hK => ?_
            refine wp_buildTo (by rfl) (.slice (some ⟨X0.heap.size, 0, none⟩) 1 1) (X0.alloc (.cells #[.string yk, .string ⟨#[]⟩, .string ys] 41)) (by simp only [List.map_toArray, List.map_cons, List.map_nil]; exact bsD X0 yk ⟨#[]⟩ ys) (some 131) (by rfl) ?_
            have HI1 : Hid (Below u.heap.size u (X0.alloc (.cells #[.string yk, .string ⟨#[]⟩, .string ys] 41))) := hS.alloc hS.size _
            have HO1 : Hid (RD.Own (X0.alloc (.cells #[.string yk, .string ⟨#[]⟩, .string ys] 41)) u.heap.size acc xo cc) := (unhide HO0).below ((Below.refl _ _).alloc (Nat.le_refl _) _)
            have HA1 : Hid (RD.At (X0.alloc (.cells #[.string yk, .string ⟨#[]⟩, .string ys] 41)) [(yk, ⟨#[]⟩, ys)] (some ⟨X0.heap.size, 0, none⟩) 1) := RD.one X0 (yk, ⟨#[]⟩, ys) _
            refine hK _ _ (fun _ => unhide HI1) ?_
            clear hK K
            simp only [Act.put, List.setIfInBounds_toArray, List.set_cons_zero, List.set_cons_succ]
            generalize X0.alloc (.cells #[.string yk, .string ⟨#[]⟩, .string ys] 41) = X1 at HI1 HO1 HA1 ⊢
            refine wpAnyL_one (i := 13) (by kernel_rfl) rfl (by rfl) fun K hK => ?_
            refine wp_putD (.tmp 119) (.tmp 131) (by rfl) (some 132) (by rfl) u.heap.size acc [(yk, ⟨#[]⟩, ys)] m0 1 (unhide HML) rfl xo (some ⟨X0.heap.size, 0, none⟩) cc 1 (by with_unfolding_all rfl) (by with_unfolding_all rfl) (unhide HO1) (unhide HA1) (unhide HLL (yk, ⟨#[]⟩, ys)) (unhide HI1).size ?_
            intro x4 n4 c4 X4 HP4
            have HI4 : Hid (Below u.heap.size u X4) := (unhide HI1).trans (unhide HP4).below
            refine hK _ _ (fun _ => unhide HI4) ?_
            clear hK K
            simp only [Act.put, List.setIfInBounds_toArray, List.set_cons_zero, List.set_cons_succ]
            refine wpAnyL_one (i := 14) (by kernel_rfl) rfl (by rfl) fun K hK => ?_
            refine wp_val (.slice x4 n4 c4) (by go_simp) (some 6) (by rfl) ?_
            refine hK _ _ (fun _ => unhide HI4) ?_
            clear hK K
            simp only [Act.put, List.setIfInBounds_toArray, List.set_cons_zero, List.set_cons_succ]
            refine wpAnyL_done (by kernel_rfl) ?_ _
            go_wp2
            go_roundw
            case rel => exact ⟨i, k + 1, n4, c4, x4, acc ++ [((yk, (⟨#[]⟩ : ByteArray), ys) : Df)], hin, by omega, rfl, by go_num, rfl, (unhide HP4).len, unhide HN, (unhide HP4).own, unhide HI4⟩
            case measure => simp [intOf]; omega
          · obtain rfl : k = m := by omega
            have hkk : ¬ (k : Int) < (k : Int) := by omega
            go_wp2
            go_ret2
            have HE := hide (DI.done (unhide HAC) (by rw [← unhide HNA]; exact Nat.le_refl _) (by rw [← unhide HNB]; exact Nat.le_refl _))
            exact ⟨xo, m0, cc, rfl, by rw [← unhide HE]; exact unhide HML, by rw [← unhide HE]; exact unhide HO, unhide HI⟩
    · rw [Bool.not_eq_true] at h2
      rw [h2] at HL2
      rw [if_neg (by rw [h2]; exact fun h => by cases h.2)] at hv
      cases hv
      clear h1 h2
      go_enter Try.func28, Try.ntmps28
      go_wp2_with (first
        | (go_at_call_of 50 (Value.slice ao n c); refine (unhide HL1 u (Below.refl _ _)).mono ?_; rintro e W1 ⟨rfl, hb⟩; have HB1 := hide hb; clear hb)
        | (go_at_call 50; refine (unhide HL2 W1 (unhide HB1)).mono ?_; rintro e W2 ⟨rfl, hb⟩; have HB2 : Hid (Below u.heap.size u W2) := Below.step (unhide HB1) hb; clear hb HB1)
        | fail)
      go_ret2
      exact ⟨none, 0, 0, rfl, rfl, Rec.Own.none _ _, unhide HB2⟩
  · rw [Bool.not_eq_true] at h1
    rw [h1] at HL1
    rw [if_neg (by rw [h1]; exact fun h => by cases h.1)] at hv
    cases hv
    clear h1
    go_enter Try.func28, Try.ntmps28
    go_wp2_with (first
      | (go_at_call 50; refine (unhide HL1 u (Below.refl _ _)).mono ?_; rintro e W1 ⟨rfl, hb⟩; have HB1 := hide hb; clear hb)
      | fail)
    go_ret2
    exact ⟨none, 0, 0, rfl, rfl, Rec.Own.none _ _, unhide HB1⟩
end Go.Proofs.Ytbahlfpcbplofaa.S
