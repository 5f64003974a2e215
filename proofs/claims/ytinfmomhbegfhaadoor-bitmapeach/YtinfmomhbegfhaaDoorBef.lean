/- The walk of BitmapEach. -/
import Derived.Test.YtinfmomhbegfhaaDoorBee
namespace Go.Proofs.YtinfmomhbegfhaaDoor
open Go.RowKit Go.Shelf

attribute [local go_sem] Oper.semAt_some

set_option maxRecDepth 100000 in
set_option maxHeartbeats 8000000 in
theorem each_walk (x : Int) (xs ys : List Int) (ao bo : Option Addr) (c1 c2 : Nat) (w : World) (hl : xs.length ≤ 9223372036854775807) (hl2 : ys.length ≤ 9223372036854775807) (hx : LiesI w ao xs) (hy : LiesI w bo ys) (hT : Tab w) :
    Calls Tryd.prog 5 #[.int .i64 x, .slice ao xs.length c1, .slice bo ys.length c2] w fun e w' => e = .returned (.bool true) ∧ Below w.heap.size w w' := by
  obtain ⟨n, hn⟩ : ∃ n, n = (x % 2001).toNat := ⟨_, rfl⟩
  have HNX := hide hn
  have hn2 : n < 2001 := by omega
  have HO1 := hide (fun u => lOf x xs ao c1 u hl)
  rw [← hn] at HO1
  have HX := hide hx
  have HY := hide hy
  have HT := hide hT
  have h0 : 0 < w.heap.size := World.block_lt_of_cell? _ _ (hT 0 (by decide))
  obtain ⟨lx, hlx⟩ : ∃ lx, lx = xs.length := ⟨_, rfl⟩
  rw [← hlx] at HO1
  rw [← hlx]
  obtain ⟨ly, hly⟩ : ∃ ly, ly = ys.length := ⟨_, rfl⟩
  have HLY := hide hly
  rw [← hly]
  have hli : (ly : Int) ≤ 9223372036854775807 := by omega
  clear hx hy hn hl hl2 hT hlx hly
  generalize setOf n xs = A at *
  refine (callsIn_wide (n := 6)).1 ?_
  refine callsIn_of_wp_marks Tryd.func5 rfl trivial ?_ rfl
  simp only [Tryd.ntmps5, List.size_toArray, List.length_cons, List.length_nil, Nat.reduceAdd, Nat.reduceSub, Array.replicate_succ, Array.replicate_zero, List.push_toArray, List.append_toArray, List.nil_append, List.cons_append]
  refine wpIn_wide.2 ?_
  go_wp2_with fail
  have hb0 : Below w.heap.size w ((w.alloc (.cells #[.slice bo ly c2] 36)).alloc (.cells #[.bool false] 4)) := ((Below.refl _ w).alloc (Nat.le_refl _) _).alloc (by simp) _
  have HB5 : Hid (Boxed ((w.alloc (.cells #[.slice bo ly c2] 36)).alloc (.cells #[.bool false] 4)) w.heap.size 36 (.slice bo ly c2)) := (Boxed.new w _ _).alloc _
  have HB6 : Hid (Boxed ((w.alloc (.cells #[.slice bo ly c2] 36)).alloc (.cells #[.bool false] 4)) (w.heap.size + 1) 4 (.bool false)) := by
    have := Boxed.new (w.alloc (.cells #[.slice bo ly c2] 36)) 4 (.bool false)
    rwa [World.size_alloc] at this
  refine (unhide HO1 _ ((unhide HX).keep hb0 (Nat.le_refl _))).mono ?_
  rintro e w1 ⟨p, q, rfl, hp, hq, hm, hb⟩
  rw [World.size_alloc, World.size_alloc] at hp hq hb
  have HC5 : Hid (Boxed w1 w.heap.size 36 (.slice bo ly c2)) := (hb.block w.heap.size (by omega)).trans (unhide HB5)
  have HC6 : Hid (Boxed w1 (w.heap.size + 1) 4 (.bool false)) := (hb.block (w.heap.size + 1) (by omega)).trans (unhide HB6)
  have HB1 : Hid (Below w.heap.size w w1) := hb0.trans (hb.mono (by omega))
  have HM := hide hm
  have HPQ : Hid (w.heap.size + 2 ≤ p ∧ w.heap.size + 2 ≤ q) := ⟨hp, hq⟩
  clear hp hq hm hb hb0 HB5 HB6 HO1
  go_wp2_with fail
  have hb1 : Below w1.heap.size w1 (w1.alloc (.cells #[.pointer (some ⟨p, 0, none⟩)] 24)) := (Below.refl _ _).alloc (Nat.le_refl _) _
  have HC7 : Hid (Boxed (w1.alloc (.cells #[.pointer (some ⟨p, 0, none⟩)] 24)) w1.heap.size 24 (.pointer (some ⟨p, 0, none⟩))) := Boxed.new w1 _ _
  refine (lGone ((unhide HM).below hb1) ((unhide HT).below ((unhide HB1).trans (hb1.mono (unhide HB1).size)) h0)).mono ?_
  rintro e w2 ⟨v, rfl, hrow, hb⟩
  rw [World.size_alloc] at hrow hb
  obtain ⟨wo, wc, rfl, hlies⟩ := lies_of_own hrow
  obtain ⟨N7, hN7⟩ : ∃ N7, N7 = w1.heap.size := ⟨_, rfl⟩
  rw [← hN7] at HC7 hb hrow ⊢
  have hb2 : Below N7 w1 w2 := by rw [hN7] at hb ⊢; exact hb1.trans (hb.mono (by omega))
  have HD5 : Hid (Boxed w2 w.heap.size 36 (.slice bo ly c2)) := (hb2.block w.heap.size (by rw [hN7]; exact (unhide HC5).lt)).trans (unhide HC5)
  have HD6 : Hid (Boxed w2 (w.heap.size + 1) 4 (.bool false)) := (hb2.block (w.heap.size + 1) (by rw [hN7]; exact (unhide HC6).lt)).trans (unhide HC6)
  have HD7 : Hid (Boxed w2 N7 24 (.pointer (some ⟨p, 0, none⟩))) := (hb.block N7 (by omega)).trans (unhide HC7)
  have HB2 : Hid (Below w.heap.size w w2) := (unhide HB1).trans (hb2.mono (by rw [hN7]; exact (unhide HB1).size))
  have HM2 : Hid (Bm w2 p q n A) := (unhide HM).keep (hb2.block p (by rw [hN7]; exact (unhide HM).plt)) (hb2.block q (by rw [hN7]; exact (unhide HM).qlt))
  have HPQ2 : Hid (w.heap.size + 2 ≤ p ∧ w.heap.size + 2 ≤ q ∧ p < N7 ∧ q < N7 ∧ w.heap.size + 2 ≤ N7) := by
    have := unhide HPQ
    have h1 := (unhide HM).plt
    have h2 := (unhide HM).qlt
    rw [← hN7] at h1 h2
    exact ⟨this.1, this.2, h1, h2, by omega⟩
  obtain ⟨E, hE⟩ : ∃ E, E = (Bit.els A n 0).map (fun y => ((y : Nat) : Int)) := ⟨_, rfl⟩
  rw [← hE] at hlies hrow ⊢
  obtain ⟨le, hle⟩ : ∃ le, le = E.length := ⟨_, rfl⟩
  have HLE : Hid (le = (Bit.els A n 0).length) := by show _ = _; rw [hle, hE, List.length_map]
  have hle2 : le ≤ 2000 := by
    have := unhide HLE
    have := Bit.els_length_le A n
    omega
  rw [← hle] at hrow ⊢
  have HW2 : Hid (LiesI w2 wo E) := hlies
  have HWO : Hid (∀ g o, wo = some ⟨g, o, none⟩ → N7 < g) := fun g o e => by
    rcases hrow.2 with ⟨h, _⟩ | ⟨g', cap, cur, h, hg, _⟩
    · cases h; cases e
    · cases h; cases e; omega
  have HEE := hide hE
  have HLL := hide hle
  clear hrow hlies hb hb1 hb2 HC5 HC6 HC7 HB1 HM HPQ hN7 hE hle
  have hcs := ((unhide HD7).alloc (.cells #[.slice wo le wc] 36)).cell
  go_wp2_with fail
  clear hcs
  have hb1 : Below w2.heap.size w2 (w2.alloc (.cells #[.slice wo le wc] 36)) := (Below.refl _ _).alloc (Nat.le_refl _) _
  have HC8 : Hid (Boxed (w2.alloc (.cells #[.slice wo le wc] 36)) w2.heap.size 36 (.slice wo le wc)) := Boxed.new w2 _ _
  refine (bEach ((unhide HM2).below hb1)).mono ?_
  rintro e w3 ⟨p', q', B, rfl, hp', hq', hB, hBl, hm3, hc3, hBc, hb⟩
  rw [World.size_alloc] at hp' hq' hB hb
  obtain ⟨N8, hN8⟩ : ∃ N8, N8 = w2.heap.size := ⟨_, rfl⟩
  rw [← hN8] at HC8 hb hp' hq' hB ⊢
  have hb2 : Below N8 w2 w3 := by rw [hN8] at hb ⊢; exact hb1.trans (hb.mono (by omega))
  have HE5 : Hid (Boxed w3 w.heap.size 36 (.slice bo ly c2)) := (hb2.block w.heap.size (by rw [hN8]; exact (unhide HD5).lt)).trans (unhide HD5)
  have HE6 : Hid (Boxed w3 (w.heap.size + 1) 4 (.bool false)) := (hb2.block (w.heap.size + 1) (by rw [hN8]; exact (unhide HD6).lt)).trans (unhide HD6)
  have HE7 : Hid (Boxed w3 N7 24 (.pointer (some ⟨p, 0, none⟩))) := (hb2.block N7 (by rw [hN8]; exact (unhide HD7).lt)).trans (unhide HD7)
  have HE8 : Hid (Boxed w3 N8 36 (.slice wo le wc)) := (hb.block N8 (by omega)).trans (unhide HC8)
  have HB3 : Hid (Below w.heap.size w w3) := (unhide HB2).trans (hb2.mono (by rw [hN8]; exact (unhide HB2).size))
  have HM3 : Hid (Bm w3 p q n A) := (unhide HM2).keep (hb2.block p (by rw [hN8]; exact (unhide HM2).plt)) (hb2.block q (by rw [hN8]; exact (unhide HM2).qlt))
  have HW3 : Hid (LiesI w3 wo E) := (unhide HW2).keep hb2 (by omega)
  have HME := hide hm3
  have HCB := hide hc3
  have HBC := hide hBc
  have HN : Hid (N7 < N8 ∧ N8 < p' ∧ N8 < q' ∧ N8 < B ∧ B < w3.heap.size ∧ ∀ g o, wo = some ⟨g, o, none⟩ → 0 < le → g < N8) := by
    refine ⟨by rw [hN8]; exact (unhide HD7).lt, by omega, by omega, by omega, hBl, fun g o e h => ?_⟩
    obtain ⟨g', o', h1, h2, _⟩ := unhide HW2 (by rw [← unhide HLL]; exact h)
    rw [h1] at e
    cases e
    rw [hN8]
    exact h2
  have hsf : ∀ (a : Addr) (m : Mode) (u : World) (fn : Fn) (fi lb : Array Value), (store a (.func fn fi lb) m).run Tryd.prog u = stored Tryd.prog u a (.func fn fi lb) m := fun a m u _ _ _ => run_store _ u a _ m rfl
  have heq : ∀ (lb : Array Value) (u : World), (binOp .eql 49 (.func (.func 54) #[] lb) .nilFunc).run Tryd.prog u = .ok (.bool false) u := fun _ _ => by kernel_rfl
  clear hp' hq' hB hBl hm3 hc3 hBc hb hb1 hb2 HC8 HD5 HD6 HD7 HB2 HM2 HW2 hN8
  go_wp2
  obtain ⟨N9, hN9⟩ : ∃ N9, N9 = w3.heap.size := ⟨_, rfl⟩
  obtain ⟨w0, hw0⟩ : ∃ w0, w0 = w3.alloc (.cells #[.func (.func 54) #[] #[.pointer (some ⟨B, 0, none⟩)]] 49) := ⟨_, rfl⟩
  have hb3 : Below w3.heap.size w3 w0 := by rw [hw0]; exact (Below.refl _ _).alloc (Nat.le_refl _) _
  obtain ⟨gw, hgw⟩ : ∃ gw, (∀ g o, wo = some ⟨g, o, none⟩ → 0 < E.length → g = gw) ∧ gw < N8 ∧ (gw = 0 ∨ N7 < gw) := by
    have h1 := unhide HN
    have h2 := unhide HPQ2
    by_cases hle0 : 0 < le
    · cases hwo : wo with
      | none => exact ⟨0, fun g o e => (by cases e), by omega, .inl rfl⟩
      | some a =>
        obtain ⟨g', o', h3, _⟩ := unhide HW3 (by rw [← unhide HLL]; exact hle0)
        exact ⟨g', fun g o e _ => by rw [← hwo, h3] at e; cases e; rfl, h1.2.2.2.2.2 g' o' h3 hle0, .inr (unhide HWO g' o' h3)⟩
    · exact ⟨0, fun g o _ h => by rw [← unhide HLL] at h; omega, by omega, .inl rfl⟩
  obtain ⟨ks, hks⟩ : ∃ ks, ks = [0, p', q', B, w.heap.size, w.heap.size + 1, N7, N8, N9, gw] := ⟨_, rfl⟩
  have HF5 : Hid (∀ W, Rd w w0 W ks p q n → Boxed W w.heap.size 36 (.slice bo ly c2)) := fun W h => (h.keep _ (by simp [hks])).trans ((hb3.block _ (unhide HE5).lt).trans (unhide HE5))
  have HF6 : Hid (∀ W, Rd w w0 W ks p q n → Boxed W (w.heap.size + 1) 4 (.bool false)) := fun W h => (h.keep _ (by simp [hks])).trans ((hb3.block _ (unhide HE6).lt).trans (unhide HE6))
  have HF7 : Hid (∀ W, Rd w w0 W ks p q n → Boxed W N7 24 (.pointer (some ⟨p, 0, none⟩))) := fun W h => (h.keep _ (by simp [hks])).trans ((hb3.block _ (unhide HE7).lt).trans (unhide HE7))
  have HF8 : Hid (∀ W, Rd w w0 W ks p q n → Boxed W N8 36 (.slice wo le wc)) := fun W h => (h.keep _ (by simp [hks])).trans ((hb3.block _ (unhide HE8).lt).trans (unhide HE8))
  have HF9 : Hid (∀ W, Rd w w0 W ks p q n → Boxed W N9 49 (.func (.func 54) #[] #[.pointer (some ⟨B, 0, none⟩)])) := fun W h => (h.keep _ (by simp [hks])).trans (by rw [hw0, hN9]; exact Boxed.new w3 _ _)
  have HFW : Hid (∀ W, Rd w w0 W ks p q n → LiesI W wo E) := fun W h => lies_same ((unhide HW3).keep hb3 (Nat.le_refl _)) hgw.1 (h.keep gw (by simp [hks])) h.size
  have HFM : Hid (Bm w0 p' q' n A) := (unhide HME).below hb3
  have HFB : Hid (w0.cell? ⟨B, 0, none⟩ = some (.pointer (some ⟨p', 0, none⟩))) := (hb3.cell (p := ⟨B, 0, none⟩) (unhide HN).2.2.2.2.1).trans (unhide HCB)
  have HKS : Hid (∀ k ∈ ks, k < w0.heap.size ∧ k ≠ q) := fun k hk => by
    have h1 := unhide HN
    have h2 := unhide HPQ2
    have h3 := (unhide HME).plt
    have h4 := (unhide HME).qlt
    have h5 := (unhide HE8).lt
    have h6 : w3.heap.size < w0.heap.size := by rw [hw0]; simp
    rw [hks] at hk
    simp only [List.mem_cons, List.not_mem_nil, or_false] at hk
    obtain ⟨_, h7, h8⟩ := hgw
    omega
  have HR0 : Hid (Rd w w0 w0 ks p q n) := ⟨(unhide HB3).trans (hb3.mono (unhide HB3).size), Keeps.refl _ _, Nat.le_refl _, A, (unhide HM3).below hb3⟩
  have HQW : Hid (w.heap.size + 2 ≤ q ∧ p < w0.heap.size ∧ q < w0.heap.size ∧ w.heap.size ≤ w0.heap.size) := by
    have h1 := (unhide HM3).plt
    have h2 := (unhide HM3).qlt
    have h3 := hb3.size
    have h4 := unhide HPQ2
    have h5 := (unhide HB3).size
    exact ⟨h4.2.1, by omega, by omega, by omega⟩
  have HKM : Hid (∀ k, k ∈ [0, p', q', B] → k ∈ ks) := fun k hk => by rw [hks]; simp at hk ⊢; omega
  have HK9 : Hid (∀ k ∈ ks, k = 0 ∨ k = p' ∨ k = q' ∨ k = B ∨ k = w.heap.size ∨ k = w.heap.size + 1 ∨ k = N7 ∨ k = N8 ∨ k = N9 ∨ k = gw) := fun k hk => by rw [hks] at hk; simpa using hk
  rw [← hw0, ← hN9]
  clear hb3 hw0 hN9 hks hgw HE5 HE6 HE7 HE8 HB3 HM3 HW3 HME HCB HBC HN HWO
  go_loopw [10] (fun i wr => ∃ k : Nat, k ≤ ly ∧ i = .int .i64 k ∧ Hid (Rd w w0 wr ks p q n)) (fun i _ => ly - (intOf i).toNat)
  case atStart => exact ⟨0, Nat.zero_le _, rfl, hide (unhide HR0)⟩
  case round =>
    clear HR0
    obtain ⟨k, hk, rfl, HI⟩ := hrel
    have z5 := (unhide HF5 _ (unhide HI)).cell
    by_cases hlt : k < ly
    · have hki : (k : Int) < (ly : Int) := by omega
      have hkx : k < ys.length := by rw [← unhide HLY]; exact hlt
      have z7 := (unhide HF7 _ (unhide HI)).cell
      obtain ⟨g, o, rfl, hc⟩ := lies_at ((unhide HY).keep (unhide HI).bel (Nat.le_refl _)) k hkx
      have HPT : Hid (∀ u y, Rd w w0 u ks p q n → Calls Tryd.prog 24 #[.pointer (some ⟨p, 0, none⟩), .int .i64 y] u fun e u' => ∃ v, e = .returned (.int .i64 v) ∧ Rd w w0 u' ks p q n) := fun u y h => by
        obtain ⟨T, hT⟩ := h.set
        refine (bPutAny hT y).mono fun e u' ⟨v, T', he, hm, hu⟩ => ⟨v, he, h.u1 hu hm (unhide HKS) (by have := unhide HQW; omega)⟩
      have HTK : Hid (∀ u y, Rd w w0 u ks p q n → Calls Tryd.prog 25 #[.pointer (some ⟨p, 0, none⟩), .int .i64 y] u fun e u' => ∃ v, e = .returned (.int .i64 v) ∧ Rd w w0 u' ks p q n) := fun u y h => by
        obtain ⟨T, hT⟩ := h.set
        refine (bTakeAny hT y).mono fun e u' ⟨v, T', he, hm, hu⟩ => ⟨v, he, h.u1 hu hm (unhide HKS) (by have := unhide HQW; omega)⟩
      have HCC : Hid (∀ u, Rd w w0 u ks p q n → u.cell? ⟨g, o + k, none⟩ = some (.int .i64 ys[k])) := fun u h => by
        obtain ⟨g', o', e', hc'⟩ := lies_at ((unhide HY).keep h.bel (Nat.le_refl _)) k hkx
        cases e'
        exact hc'
      generalize ys[k] = y at *
      go_wp2
      go_region_held3 (fun u => u.cell? ⟨N7, 0, none⟩ = some (.pointer (some ⟨p, 0, none⟩)) ∧ u.cell? ⟨w.heap.size, 0, none⟩ = some (.slice (some ⟨g, o, none⟩) ly c2) ∧ u.cell? ⟨g, o + k, none⟩ = some (.int .i64 y)) (first | exact ⟨z7, z5, hc⟩ | exact ⟨y7, y5, yc⟩ | (go_keep; done)) (first | (go_at_call 24; refine (unhide HPT _ _ (by first | exact unhide HI | exact (unhide HI).drew)).mono ?_; rintro e w5 ⟨v5, rfl, hr5⟩; have y5 := (unhide HF5 _ hr5).cell; have y7 := (unhide HF7 _ hr5).cell; have yc := unhide HCC _ hr5; have HR5 := hide hr5; clear hr5))
      clear y5 yc hc z5 z7
      go_wp2_with fail
      refine (unhide HTK _ _ (unhide HR5)).mono ?_
      rintro e w6 ⟨v6, rfl, hr6⟩
      have HR6 := hide hr6
      clear hr6
      go_wp2
      go_roundw
      case rel => exact ⟨k + 1, by omega, by go_num, hide (unhide HR6)⟩
      case measure => simp [intOf]; omega
    · have hkk : k = ly := by omega
      subst hkk
      go_wp2
      rename World => wz
      clear HY HLY
      go_loopw [11] (fun i u => ∃ k : Nat, 1 ≤ k ∧ (k ≤ le ∨ k = 1) ∧ i = .int .i64 k ∧ Hid (Rd w w0 u ks p q n)) (fun i _ => le - (intOf i).toNat)
      case atStart => exact ⟨1, Nat.le_refl _, .inr rfl, rfl, hide (unhide HI)⟩
      case round =>
        clear HI z5
        obtain ⟨j, hj1, hj2, rfl, HI⟩ := hrel
        have z8 := (unhide HF8 _ (unhide HI)).cell
        by_cases hlt : j < le
        · have hji : (j : Int) < (le : Int) := by omega
          have hjx : j < E.length := by rw [← unhide HLL]; exact hlt
          obtain ⟨i1, hi1⟩ : ∃ i1, i1 + 1 = j := ⟨j - 1, by omega⟩
          have hix : i1 < E.length := by omega
          obtain ⟨g, o, rfl, hc⟩ := lies_at (unhide HFW _ (unhide HI)) j hjx
          obtain ⟨g2, o2, e2, hc2⟩ := lies_at (unhide HFW _ (unhide HI)) i1 hix
          cases e2
          have hord : ¬ E[j] ≤ E[i1] := by
            have hs := els_sorted A n 0
            have hl := unhide HLE
            have := (List.pairwise_iff_getElem.1 hs) i1 j (by omega) (by omega) (by omega)
            have e1 : E[j] = (((Bit.els A n 0)[j]'(by omega) : Nat) : Int) := by simp [unhide HEE]
            have e2 : E[i1] = (((Bit.els A n 0)[i1]'(by omega) : Nat) : Int) := by simp [unhide HEE]
            rw [e1, e2]
            omega
          have hw1 : IntKind.i64.wrap ((j : Int) - 1) = (i1 : Int) := by rw [wrap_small _ (by omega) (by omega)]; omega
          have hii : (i1 : Int) < (le : Int) := by omega
          generalize E[j] = y1 at *
          generalize E[i1] = y2 at *
          have HJ1 := hide hi1
          clear hi1 hj2
          go_wp2
          go_quiet (fail)
          go_wp2
          go_roundw
          case rel => exact ⟨j + 1, by omega, .inl (by omega), by go_num, hide ((unhide HI).drewN _)⟩
          case measure => simp [intOf]; omega
        · have hji : ¬ (j : Int) < (le : Int) := by omega
          have z9 := ((unhide HF9 _ (unhide HI)).alloc (.cells #[.int .i64 0] 3)).cell
          clear hj1 hj2 hlt
          go_wp2
          refine (wpIn_wide (n := 6)).1 ?_
          refine name_act ?_
          intro a0 ha0
          obtain ⟨N12, hN12⟩ : ∃ N12, N12 = wr.heap.size := ⟨_, rfl⟩
          obtain ⟨w1, hw1⟩ : ∃ w1, w1 = wr.alloc (.cells #[.int .i64 0] 3) := ⟨_, rfl⟩
          have hbx : Below wr.heap.size wr w1 := by rw [hw1]; exact (Below.refl _ _).alloc (Nat.le_refl _) _
          have HS1 : Hid (w1.heap.size = N12 + 1) := by show _ = _; rw [hw1, hN12]; simp
          have HRW : Hid (Rd w w0 w1 ks p q n) := by
            obtain ⟨T, hT⟩ := (unhide HI).set
            exact ⟨(unhide HI).bel.trans (hbx.mono (unhide HI).bel.size), (unhide HI).keep.trans fun k hk => hbx.block k (Nat.lt_of_lt_of_le (unhide HKS k hk).1 (unhide HI).size), Nat.le_trans (unhide HI).size hbx.size, T, hT.below hbx⟩
          have hB12 : Boxed w1 N12 3 (.int .i64 0) := by rw [hw1, hN12]; exact Boxed.new wr _ _
          have HN12 : Hid (w0.heap.size ≤ N12) := by rw [hN12]; exact (unhide HI).size
          rw [← hw1]
          rw [← hN12] at ha0
          have hTab : ∀ W, Rd w w0 W ks p q n → Tab W := fun W h => (unhide HT).below h.bel h0
          have hEm : ∀ W, Rd w w0 W ks p q n → Bm W p' q' n A := fun W h => (unhide HFM).keep (h.keep p' (unhide HKM p' (by simp))) (h.keep q' (unhide HKM q' (by simp)))
          have hEb : ∀ W, Rd w w0 W ks p q n → W.cell? ⟨B, 0, none⟩ = some (.pointer (some ⟨p', 0, none⟩)) := fun W h => (World.cell?_of_block (a := ⟨B, 0, none⟩) (h.keep B (unhide HKM B (by simp)))).trans (unhide HFB)
          have hBlt : ∀ W, Rd w w0 W ks p q n → B < W.heap.size := fun W h => Nat.lt_of_lt_of_le (unhide HKS B (unhide HKM B (by simp))).1 h.size
          have hlt4 : ∀ k ∈ [0, p', q', B], k < w0.heap.size := fun k hk => (unhide HKS k (unhide HKM k hk)).1
          clear hbx hw1 hN12 HI z8 z9
          refine name_post ?_
          intro Q0 hQ0
          have HTL : Hid (∀ (D : Nat) (W : World) (kk : Nat), w1.heap.size ≤ D → Boxed W N12 3 (.int .i64 (kk : Int)) → kk = min le 41 → Rd w w0 W ks p q n → W.heap[D]? = some (.deferred (some [])) → Q0 .normal { a0 with defers := { target := .collected D, args := #[] } :: a0.defers } W) := by
            intro D W kk hD hbk hkk hrd hdf
            rw [hQ0, ha0]
            clear hQ0 Q0
            have z9 := ((unhide HF9 W hrd).alloc (.cells #[.slice none 0 0] 36)).cell
            go_wp2
            refine (wpIn_wide (n := 6)).1 ?_
            refine name_act ?_
            intro a2 ha2
            obtain ⟨N16, hN16⟩ : ∃ N16, N16 = W.heap.size := ⟨_, rfl⟩
            obtain ⟨w5, hw5⟩ : ∃ w5, w5 = W.alloc (.cells #[.slice none 0 0] 36) := ⟨_, rfl⟩
            have bO : Boxed w5 N16 36 (.slice none 0 0) := by rw [hw5, hN16]; exact Boxed.new W _ _
            have hB0 : Below N16 W w5 := by rw [hw5, hN16]; exact (Below.refl _ W).alloc (Nat.le_refl _) _
            have HS5 : Hid (w5.heap.size = N16 + 1) := by show _ = _; rw [hw5, hN16]; simp
            have HN16 : Hid (w0.heap.size ≤ N16 ∧ N12 < N16 ∧ D < N16) := by
              rw [hN16]; exact ⟨hrd.size, hbk.lt, (Array.getElem?_eq_some_iff.1 hdf).1⟩
            rw [← hw5]
            rw [← hN16] at ha2
            have HKSl : Hid (∀ k ∈ ks, k < w0.heap.size) := fun k hk => (unhide HKS k hk).1
            have HRB : Hid (∀ W', Below N16 W W' → Rd w w0 W' ks p q n) := fun W' hb => hrd.below hb (unhide HN16).1 (unhide HKSl) (unhide HQW).2.1 (unhide HQW).2.2.1 (unhide HQW).2.2.2
            have hr5 := unhide HRB w5 hB0
            have HBK : Hid (∀ W', Below N16 W W' → Boxed W' N12 3 (.int .i64 (kk : Int))) := fun W' hb => (hb.block N12 (unhide HN16).2.1).trans hbk
            have HDF : Hid (∀ W', Below N16 W W' → W'.heap[D]? = some (.deferred (some []))) := fun W' hb => (hb.block D (unhide HN16).2.2).trans hdf
            have hlen : (Bit.els A n 0).length ≤ 2000 := by have := unhide HLE; omega
            obtain ⟨i0, hi, hz0, hz1, hz2⟩ := info_parts infoI
            have HNW := hide hN16
            clear hw5 hN16 hbk hdf hrd z9
            refine wpIn_rangeFunc_ownG rfl (by decide) (gf := 54) (lb := #[.pointer (some ⟨B, 0, none⟩)]) (by rw [ha2]; rfl) trivial (enters_of Tryd.func54 (by kernel_rfl) rfl)
              (each_stops (6 - 1) (by decide) (hEm w5 hr5) (hTab w5 hr5) (hEb w5 hr5) (hBlt w5 hr5))
              (fun h k => h.trans k) (fun W l o o' hl ho _ _ => fun k hk => by have h1 := hlt4 k hk; have h2 := unhide HN16; have h3 := unhide HS5; exact (grownBy_putObj' W l o').block k (by have := (Array.getElem?_eq_some_iff.1 ho).1; omega) (fun e => absurd (Option.some.inj e) (by omega))) (Below.refl _ _) (fun _ => rfl)
              (fun pre W' => (∃ v, Boxed W' N16 36 v ∧ W'.ownsRow N16 3 1 v pre.length (pre.map fun y => Value.int .i64 ((y : Nat) : Int)) ∧ True) ∧ Below N16 W W')
              (fun _ _ _ => False)
              (OwnFrom.and (Own.from (holdsRow_own N16 N16 36 3 1 (fun pre : List Nat => pre.length) (fun pre : List Nat => pre.map fun y => Value.int .i64 ((y : Nat) : Int)) (fun _ _ => True)) _) (ownFrom_below (by have := unhide HNW; omega) (by have := unhide HS5; have := unhide HNW; omega)))
              (fun _ _ _ _ _ hs _ _ => hs)
              ⟨⟨_, bO, World.ownsRow_nil _ _ _ _, trivial⟩, hB0⟩
              (fun x => { tmps := (a2.tmps.setIfInBounds 104 (.int .i64 ((x : Nat) : Int))).setIfInBounds 17 (.int .i64 ((x : Nat) : Int)), defers := [] }) ?assign ?body ?done ?stop
            case assign =>
              intro l x W' K hK
              rw [ha2] at hK ⊢
              simp only [List.setIfInBounds_toArray, List.set_cons_zero, List.set_cons_succ] at hK ⊢
              gi_wp2
              exact hK
            case body =>
              rintro l pre x W' ⟨⟨v, hv, hrow, _⟩, hB⟩ hlt
              have hc := hv.cell
              rw [ha2]
              simp only [List.setIfInBounds_toArray, List.set_cons_zero, List.set_cons_succ]
              have hno : ∀ k ∈ [0, p', q', B], some k ≠ v.ownBlock := fun k hk e => by
                have h1 := own_ge hrow e.symm
                have h2 := hlt4 k hk
                have h3 := (unhide HN16).1
                omega
              have hWN : N16 ≤ W'.heap.size := Nat.le_of_lt hv.lt
              gi_wp2_with (gi_at_builtin; refine wpListIn_append_own _ rfl _ _ 36 rfl N16 3 i0 (.int .i64 0) 1 8 Tryd.underlying36 hi hz0 hz1 hz2 rfl (by decide) _ _ _ rfl (hrow.alloc _) ⟨W'.heap.size, 0, none⟩ 1 1 [.int .i64 ((x : Nat) : Int)] rfl rfl (cell_one_new _ _ _) (by simp [Value.oneCell']) (by simp only [maxLen]; omega) (by omega) (by simp; omega) ?_; intro v' w6 hown' hgrow _; obtain ⟨g', cap', rfl⟩ := ownsRow_succ hown'; obtain ⟨hv1, hv2, hr2, hk2, hb3⟩ := hv.appended (by decide) hrow hWN (Nat.le_refl _) hown' hgrow; have hc1 := hv1.cell; have hf1 := hv1.frozen)
              have hkk : Keeps [0, p', q', B] W' (w6.setCell ⟨N16, 0, none⟩ (.slice (some ⟨g', 0, none⟩) (pre.length + 1) cap')) := fun k hkm => hb3.block k (by have h2 := hlt4 k hkm; have h3 := (unhide HN16).1; omega)
              exact ⟨hk2.from _, hkk, ⟨⟨_, hv2, by simpa using hr2, trivial⟩, hB.trans hb3⟩⟩
            case done =>
              rintro D2 ys' W' hD2 rfl ⟨⟨v, hv, hrow, _⟩, hB⟩ hdf2
              rw [ha2]
              dsimp only
              obtain ⟨ao2, ca2, rfl, hl2⟩ := lies_of_own hrow
              rw [← unhide HEE] at hl2 hv
              rw [← unhide HLL] at hv
              have HV2 := hide hv
              have HL2 := hide hl2
              have HD2 := hide hdf2
              have HRD := hide (unhide HRB W' hB)
              have HBB := hide hB
              have HDD : Hid (w5.heap.size ≤ D2 ∧ N16 < w5.heap.size) := ⟨hD2, by have := unhide HS5; omega⟩
              have HKK := hide hkk
              have HBd := hide (fun u => lBound x u)
              rw [← unhide HNX] at HBd
              have HB12 := hide (unhide HBK W' hB)
              have HDF1 := hide (unhide HDF W' hB)
              clear hv hl2 hrow hdf2 hB hD2 hkk HRB HBK HDF bO hB0 hr5 hi hz0 hz1 hz2 ha2
              go_wp2
              go_loopw [18] (fun i u => ∃ k : Nat, k ≤ le ∧ i = .int .i64 k ∧ Hid (∃ c, u = W'.drewN c)) (fun i _ => le - (intOf i).toNat)
              case atStart => exact ⟨0, Nat.zero_le _, rfl, hide ⟨0, rfl⟩⟩
              case round =>
                obtain ⟨k2, hk2, rfl, HC⟩ := hrel
                have HRW : Hid (∀ c, Rd w w0 (wr.drewN c) ks p q n) := fun c => by
                  obtain ⟨d, e⟩ := unhide HC
                  rw [e]; exact ((unhide HRD).drewN d).drewN c
                have z8 := (unhide HF8 _ (unhide HRW 0)).cell
                by_cases hlt : k2 < le ∧ k2 < 100
                · have hk3 : (k2 : Int) < (le : Int) := by omega
                  have hk4 : (k2 : Int) < 100 := by omega
                  have hd1 : decide (k2 < le) = true := decide_eq_true hlt.1
                  have hkx : k2 < E.length := by rw [← unhide HLL]; exact hlt.1
                  obtain ⟨g, o, rfl, hc⟩ := lies_at (unhide HFW _ (unhide HRW 0)) k2 hkx
                  have hLE := unhide HLE
                  have eE : E[k2] = (((Bit.els A n 0)[k2]'(by omega) : Nat) : Int) := by simp [unhide HEE]
                  rw [eE] at hc
                  have hmem : (Bit.els A n 0)[k2]'(by omega) ∈ Bit.els A n 0 := List.getElem_mem _
                  have hyn := (Bit.els_mem.1 hmem).2.1
                  generalize (Bit.els A n 0)[k2]'(by omega) = y at *
                  have hc' : wr.cell? ⟨g, o + k2, none⟩ = some (.int .i64 (y : Int)) := hc
                  have z8' : wr.cell? ⟨N8, 0, none⟩ = some (.slice (some ⟨g, o, none⟩) le wc) := z8
                  have hy0 : ¬ (y : Int) < 0 := by omega
                  have hy1 : decide ((y : Int) < 0) = false := decide_eq_false hy0
                  have hy2 : ¬ (n : Int) ≤ (y : Int) := by omega
                  clear hc z8 eE hmem hlt hLE
                  go_wp2
                  go_quiet ((go_at_call 27; exact Calls.quiet_of_same (unhide HBd _)))
                  go_wp2
                  go_roundw
                  case rel => exact ⟨k2 + 1, by omega, by go_num, hide (more (unhide HC) _)⟩
                  case measure => simp [intOf]; omega
                · have z8' : wr.cell? ⟨N8, 0, none⟩ = some (.slice wo le wc) := z8
                  clear z8
                  have HVr : Hid (Boxed wr N16 36 (.slice ao2 le ca2) ∧ LiesI wr ao2 E ∧ Boxed wr N12 3 (.int .i64 (kk : Int)) ∧ wr.heap[D2]? = some (.deferred (some [])) ∧ wr.heap[D]? = some (.deferred (some [])) ∧ Rd w w0 wr ks p q n) := by
                    obtain ⟨d, e⟩ := unhide HC
                    rw [e]
                    exact ⟨unhide HV2, unhide HL2, unhide HB12, unhide HD2, unhide HDF1, (unhide HRD).drewN d⟩
                  have hcase : (¬ (k2 : Int) < (le : Int)) ∨ ((k2 : Int) < (le : Int) ∧ ¬ (k2 : Int) < 100) := by omega
                  clear HC HRW HV2 HL2 HB12 HD2 HDF1 HRD hlt
                  rcases hcase with h1 | ⟨h1, h2⟩
                  all_goals
                    go_wp2_with fail
                    refine (bNew 1 (by decide) _).mono ?_
                    rintro e w7 ⟨p1, q1, rfl, hp1, hq1, hm1, hb1⟩
                    have HM1 := hide hm1
                    have HQ1 := hide hq1
                    have HB7 := hide hb1
                    have HFS : Hid (∀ u, Below wr.heap.size wr u → Boxed u N16 36 (.slice ao2 le ca2) ∧ LiesI u ao2 E ∧ Boxed u N12 3 (.int .i64 (kk : Int)) ∧ u.heap[D2]? = some (.deferred (some [])) ∧ u.heap[D]? = some (.deferred (some [])) ∧ Rd w w0 u ks p q n) := fun u hu => by
                      obtain ⟨a1, a2, a3, a4, a5, a6⟩ := unhide HVr
                      exact ⟨(hu.block _ a1.lt).trans a1, a2.keep hu (Nat.le_refl _), (hu.block _ a3.lt).trans a3, (hu.block _ (Array.getElem?_eq_some_iff.1 a4).1).trans a4, (hu.block _ (Array.getElem?_eq_some_iff.1 a5).1).trans a5, a6.below hu a6.size (unhide HKSl) (unhide HQW).2.1 (unhide HQW).2.2.1 (unhide HQW).2.2.2⟩
                    clear hp1 hq1 hm1 hb1
                    have z16 := (unhide HFS w7 (unhide HB7)).1.cell
                    have z8'' := (unhide HF8 w7 (unhide HFS w7 (unhide HB7)).2.2.2.2.2).cell
                    have HSI := hide (lSameI E E ao2 wo ca2 wc w7 (by rw [← unhide HLL]; omega) (unhide HFS w7 (unhide HB7)).2.1 (unhide HFW w7 (unhide HFS w7 (unhide HB7)).2.2.2.2.2))
                    rw [← unhide HLL, decide_eq_true (rfl : E = E)] at HSI
                    go_wp2_with fail
                    refine (unhide HSI).mono ?_
                    rintro e w8 ⟨rfl, c8, rfl⟩
                    clear HSI z16 z8''
                    have z12 : (w7.drewN c8).cell? ⟨N12, 0, none⟩ = some (.int .i64 (kk : Int)) := (unhide HFS w7 (unhide HB7)).2.2.1.cell
                    have z8'' : (w7.drewN c8).cell? ⟨N8, 0, none⟩ = some (.slice wo le wc) := (unhide HF8 w7 (unhide HFS w7 (unhide HB7)).2.2.2.2.2).cell
                    have hkk2 : (kk : Int) = min (le : Int) 41 := by have := unhide HKK; omega
                    have hmin : decide ((kk : Int) = min (le : Int) 41) = true := decide_eq_true hkk2
                    go_wp2_with fail
                    clear z12 z8'' hkk2 hmin
                    refine (bPut ((unhide HM1).drewN c8) 0 (by decide)).mono ?_
                    rintro e w9 ⟨rfl, hm9, hu9⟩
                    have HB9 : Hid (Below wr.heap.size wr w9) := (belowDrewN (unhide HB7) c8).trans (hu9.toBelow (unhide HB7).size (unhide HQ1))
                    have HM9 := hide hm9
                    have HT9 : Hid (Tab w9) := hTab w9 (unhide HFS w9 (unhide HB9)).2.2.2.2.2
                    clear hm9 hu9
                    go_wp2_with fail
                    refine (lGone (unhide HM9) (unhide HT9)).mono ?_
                    rintro e w10 ⟨v3, rfl, hr3, hb3⟩
                    obtain ⟨ao3, ca3, rfl, hl3⟩ := lies_of_own hr3
                    rw [show Bit.els (0 ||| 2 ^ 0) 1 0 = [0] from by decide] at hl3 ⊢
                    have HB10 : Hid (Below wr.heap.size wr w10) := (unhide HB9).trans (hb3.mono (unhide HB9).size)
                    have HL3 : Hid (LiesI w10 ao3 [0]) := hl3
                    have hln3 : (List.map (fun y => ((y : Nat) : Int)) [0]).length = 1 := rfl
                    rw [hln3]
                    clear hr3 hb3 hl3 hln3
                    go_wp2_with fail
                    have hb11 : Below w10.heap.size w10 (w10.alloc (.cells #[.int .i64 0] 3)) := (Below.refl _ _).alloc (Nat.le_refl _) _
                    have HSI2 := hide (lSameI [0] [0] ao3 (some ⟨w10.heap.size, 0, none⟩) ca3 1 (w10.alloc (.cells #[.int .i64 0] 3)) (by decide) ((unhide HL3).keep hb11 (Nat.le_refl _)) (fun _ => ⟨w10.heap.size, 0, rfl, by simp, fun j hj => by
                      obtain rfl : j = 0 := by simpa using hj
                      exact (Boxed.new w10 3 (.int .i64 0)).cell⟩))
                    rw [decide_eq_true (rfl : ([0] : List Int) = [0])] at HSI2
                    refine (unhide HSI2).mono ?_
                    rintro e w12 ⟨rfl, c12, rfl⟩
                    have HB12 : Hid (Below wr.heap.size wr ((w10.alloc (.cells #[.int .i64 0] 3)).drewN c12)) := belowDrewN ((unhide HB10).trans (hb11.mono (unhide HB10).size)) c12
                    have z6 := (unhide HF6 _ (unhide HFS _ (unhide HB12)).2.2.2.2.2).cell
                    have f6 := (unhide HF6 _ (unhide HFS _ (unhide HB12)).2.2.2.2.2).frozen
                    clear hb11 HSI2
                    have HLST : Hid (∀ W4 : World, W4 = ((w10.alloc (.cells #[.int .i64 0] 3)).drewN c12).setCell ⟨w.heap.size + 1, 0, none⟩ (.bool true) → W4.heap[D2]? = some (.deferred (some [])) ∧ (W4.putObj D2 (.deferred none)).heap[D]? = some (.deferred (some [])) ∧ ((W4.putObj D2 (.deferred none)).putObj D (.deferred none)).cell? ⟨w.heap.size + 1, 0, none⟩ = some (.bool true) ∧ Below w.heap.size w ((W4.putObj D2 (.deferred none)).putObj D (.deferred none))) := by
                      rintro W4 rfl
                      obtain ⟨_, _, _, d2, d1, rd⟩ := unhide HFS _ (unhide HB12)
                      have b6 := unhide HF6 _ rd
                      have hx1 : D2 ≠ w.heap.size + 1 := by
                        have h1 := unhide HDD
                        have h2 := (unhide HN16).1
                        have h3 := unhide HQW
                        omega
                      have hx2 : D ≠ w.heap.size + 1 := by
                        have h2 := unhide HN12
                        have h3 := unhide HQW
                        have h4 := unhide HS1
                        omega
                      have hx3 : D ≠ D2 := by
                        have h1 := unhide HDD
                        have h2 := (unhide HN16).2.2
                        omega
                      have e2 := (Deep.blk_setCell_other ((w10.alloc (.cells #[.int .i64 0] 3)).drewN c12) ⟨w.heap.size + 1, 0, none⟩ (.bool true) D2 hx1).trans d2
                      have e1 := (Deep.blk_setCell_other ((w10.alloc (.cells #[.int .i64 0] 3)).drewN c12) ⟨w.heap.size + 1, 0, none⟩ (.bool true) D hx2).trans d1
                      have e6 := b6.set (.bool true)
                      refine ⟨e2, (World.putObj_heap_other hx3).trans e1, ?_, ?_⟩
                      · exact (show Boxed _ (w.heap.size + 1) 4 (.bool true) from (World.putObj_heap_other (fun e => hx2 e.symm)).trans ((World.putObj_heap_other (fun e => hx1 e.symm)).trans e6)).cell
                      · have hb := belowCell rd.bel (p := ⟨w.heap.size + 1, 0, none⟩) (by show w.heap.size ≤ w.heap.size + 1; omega) (.bool true)
                        have hd1 : w.heap.size ≤ D := by
                          have h2 := unhide HN12
                          have h3 := unhide HQW
                          have h4 := unhide HS1
                          omega
                        have hd2 : w.heap.size ≤ D2 := by
                          have h1 := unhide HDD
                          have h2 := (unhide HN16).1
                          have h3 := unhide HQW
                          omega
                        refine (hb.trans (belowK_b (w := w) (Nat.le_refl _) _ D2 _ _ hd2 e2 rfl rfl)).trans (belowK_b (w := w) (Nat.le_refl _) _ D _ _ hd1 ((World.putObj_heap_other hx3).trans e1) rfl rfl)
                    go_wp2
                    refine ⟨by simp, .inl ⟨_, _, rfl, run_takeDeferred (unhide HLST _ rfl).1, ?_⟩⟩
                    refine ⟨by simp, .inl ⟨_, _, rfl, run_takeDeferred (unhide HLST _ rfl).2.1, ?_⟩⟩
                    exact ⟨_, results_cell_bool rfl _ _ (w.heap.size + 1) true rfl (unhide HLST _ rfl).2.2.1, rfl, (unhide HLST _ rfl).2.2.2⟩
            case stop =>
              rintro D2 c pre W' _ _ h _
              exact h.elim
          refine wpIn_rangeFunc_ownH rfl (by decide) (gf := 54) (lb := #[.pointer (some ⟨B, 0, none⟩)]) (by rw [ha0]; rfl) trivial (enters_of Tryd.func54 (by kernel_rfl) rfl)
            (each_stops (6 - 1) (by decide) (hEm w1 (unhide HRW)) (hTab w1 (unhide HRW)) (hEb w1 (unhide HRW)) (hBlt w1 (unhide HRW)))
            (fun h k => h.trans k) (fun W l o o' hl ho _ _ => fun k hk => by have h1 := hlt4 k hk; have h2 := unhide HN12; have h3 := unhide HS1; exact (grownBy_putObj' W l o').block k (by have := (Array.getElem?_eq_some_iff.1 ho).1; omega) (fun e => absurd (Option.some.inj e) (by omega))) (Below.refl _ _) (fun _ => rfl)
            (fun pre W => Boxed W N12 3 (.int .i64 (pre.length : Int)) ∧ (pre <+: Bit.els A n 0 ∧ pre.length ≤ 40) ∧ Rd w w0 W ks p q n)
            (fun c pre W => (c = .ret ∧ ¬ pre <+: Bit.els A n 0) ∨ (c = .exit 4 ∧ (Boxed W N12 3 (.int .i64 41) ∧ pre.length = 41) ∧ Rd w w0 W ks p q n))
            (OwnFrom.and (Own.from (boxed_own _ _ _) _) (OwnFrom.and (ownFrom_pure _ _) (rd_own (fun k hk => (unhide HKS k hk).1) (unhide HQW).2.1 (unhide HQW).2.2.1 (unhide HQW).2.2.2 (by have := unhide HN12; have := unhide HS1; omega))))
            (fun c s X Y row hs hg hr => hs.elim (fun h => .inl h) (fun h => .inr ⟨h.1, ⟨boxed_own N12 3 (fun (_ : Unit) => Value.int .i64 41) () X Y row h.2.1.1 hg (fun r e => (hr r e).2), h.2.1.2⟩, rd_own (β := Unit) (B := w1.heap.size) (fun k hk => (unhide HKS k hk).1) (unhide HQW).2.1 (unhide HQW).2.2.1 (unhide HQW).2.2.2 (by have := unhide HN12; have := unhide HS1; omega) () X Y row h.2.2 hg hr⟩))
            ⟨hB12, ⟨List.nil_prefix, Nat.zero_le _⟩, unhide HRW⟩
            (fun x a' _ => a' = { tmps := (a0.tmps.setIfInBounds 64 (.int .i64 ((x : Nat) : Int))).setIfInBounds 13 (.int .i64 ((x : Nat) : Int)), defers := [] })
            (fun _ _ _ _ _ _ hs _ _ => hs)
            ?assign ?body ?done ?stop
          case assign =>
            rintro l pre x W K hi hK
            rw [ha0] at hK ⊢
            simp only [List.setIfInBounds_toArray, List.set_cons_zero, List.set_cons_succ] at hK ⊢
            gi_wp2
            exact hK _ _ (KeepsFrom.refl _ _) (Keeps.refl _ _) hi rfl
          case body =>
            rintro l pre x a' W hl ⟨r, hr⟩ ⟨hbx, ⟨hpre, h40⟩, hrd⟩ rfl hlt
            rw [ha0]
            simp only [List.setIfInBounds_toArray, List.set_cons_zero, List.set_cons_succ]
            obtain ⟨K, hK⟩ : ∃ K, K = pre.length := ⟨_, rfl⟩
            have hLE := unhide HLE
            have hkx : K < E.length := by rw [← unhide HLL]; omega
            obtain ⟨g, o, rfl, hc⟩ := lies_at (unhide HFW W hrd) K hkx
            have eE : E[K] = (((Bit.els A n 0)[K]'(by omega) : Nat) : Int) := by simp [unhide HEE]
            rw [eE] at hc
            obtain ⟨y, hy⟩ : ∃ y, y = (Bit.els A n 0)[K]'(by omega) := ⟨_, rfl⟩
            rw [← hy] at hc
            have HPX : Hid (pre ++ [x] <+: Bit.els A n 0 ↔ x = y) := by
              have h1 := List.prefix_iff_eq_take.1 hpre
              rw [← hK] at h1
              have h2 := List.take_succ_eq_append_getElem (l := Bit.els A n 0) (i := K) (by omega)
              rw [← h1, ← hy] at h2
              constructor
              · intro h
                have h3 := List.prefix_iff_eq_take.1 h
                rw [List.length_append, ← hK, List.length_singleton, h2] at h3
                simpa using h3
              · rintro rfl
                rw [← h2]
                exact List.take_prefix _ _
            have hki : (K : Int) < (le : Int) := by omega
            have z12 := hbx.cell
            rw [← hK] at z12
            have z8 := (unhide HF8 W hrd).cell
            have HRD := hide hrd
            have HHR := hide hr
            have HBX := hide hbx
            clear hrd hr hbx hLE hlt eE hy hpre
            have HK0 := hide hK
            clear hK
            by_cases hxy : x = y
            · subst hxy
              have HPP : Hid (pre ++ [x] <+: Bit.els A n 0) := (unhide HPX).2 rfl
              clear HPX
              have z9 := ((unhide HF9 W (unhide HRD)).alloc (.cells #[.int .i64 0] 3)).cell
              gi_wp2
              refine name_act ?_
              intro a1 ha1
              have hdc : decide (le ≤ K) = false := decide_eq_false (by omega)
              rw [hdc] at ha1
              clear hdc
              have h1' : 1 ≤ 6 - 1 - 1 := by decide
              obtain ⟨N14, hN14⟩ : ∃ N14, N14 = W.heap.size := ⟨_, rfl⟩
              obtain ⟨W1, hW1⟩ : ∃ W1, W1 = W.alloc (.cells #[.int .i64 0] 3) := ⟨_, rfl⟩
              have hba : Below W.heap.size W W1 := by rw [hW1]; exact (Below.refl _ _).alloc (Nat.le_refl _) _
              have HSW : Hid (W1.heap.size = N14 + 1) := by show _ = _; rw [hW1, hN14]; simp
              have hKF : KeepsFrom w1.heap.size W W1 := by rw [hW1]; exact (KeepsOthers.alloc _ _).from _
              have hB14 : Boxed W1 N14 3 (.int .i64 0) := by rw [hW1, hN14]; exact Boxed.new W _ _
              have hr' : W1.heap[l]? = some (.loop r) := (hba.block l (Array.getElem?_eq_some_iff.1 (unhide HHR)).1).trans (unhide HHR)
              have HRD1 : Hid (Rd w w0 W1 ks p q n) := by
                obtain ⟨T, hT⟩ := (unhide HRD).set
                exact ⟨(unhide HRD).bel.trans (hba.mono (unhide HRD).bel.size), (unhide HRD).keep.trans fun k hk => hba.block k (Nat.lt_of_lt_of_le (unhide HKS k hk).1 (unhide HRD).size), Nat.le_trans (unhide HRD).size hba.size, T, hT.below hba⟩
              have hB12' : Boxed W1 N12 3 (.int .i64 (K : Int)) := by
                have := (hba.block N12 (unhide HBX).lt).trans (unhide HBX)
                rwa [← unhide HK0] at this
              have HN14 : Hid (w0.heap.size ≤ N14 ∧ w1.heap.size ≤ N14 ∧ N12 < N14) := by
                have h1 := (unhide HRD).size
                have h2 := (unhide HBX).lt
                rw [← hN14] at h1 h2
                have h3 := unhide HS1
                exact ⟨h1, by omega, h2⟩
              rw [← hW1]
              rw [← hN14] at ha1
              clear hba hN14 hW1 z12 z8 z9 hc
              refine wpIn_rangeFunc_ownN (l₀ := l) (r₀ := r) rfl hr' h1' (gf := 54) (lb := #[.pointer (some ⟨B, 0, none⟩)]) (by rw [ha1]; rfl) trivial (enters_of Tryd.func54 (by kernel_rfl) rfl)
                ((each_stops (6 - 1 - 1 - 1) (by decide) (hEm W1 (unhide HRD1)) (hTab W1 (unhide HRD1)) (hEb W1 (unhide HRD1)) (hBlt W1 (unhide HRD1))).inRound l)
                (fun h k => h.trans k) (fun W l o o' hl ho _ _ => fun k hk => by have h1 := hlt4 k hk; have h2 := unhide HN14; have h3 := unhide HSW; exact (grownBy_putObj' W l o').block k (by have := (Array.getElem?_eq_some_iff.1 ho).1; omega) (fun e => absurd (Option.some.inj e) (by omega))) (Below.refl _ _) (fun _ => rfl)
                (fun pre' W' => Boxed W' N14 3 (.int .i64 (pre'.length : Int)) ∧ Boxed W' N12 3 (.int .i64 (K : Int)) ∧ pre' <+: Bit.els A n 0 ∧ KeepsFrom w1.heap.size W W' ∧ Rd w w0 W' ks p q n)
                (fun c pre' W' => KeepsFrom w1.heap.size W W' ∧ ((c = .ret ∧ ¬ pre' <+: Bit.els A n 0) ∨ (c = .exit 6 ∧ Boxed W' N12 3 (.int .i64 (K : Int)) ∧ Rd w w0 W' ks p q n)))
                (OwnFrom.and (Own.from (boxed_own _ _ _) _) (OwnFrom.and (Own.from (boxed_own _ _ _) _) (OwnFrom.and (ownFrom_pure _ _) (OwnFrom.and (ownFrom_keepsFrom hKF.size) (rd_own (fun k hk => (unhide HKS k hk).1) (unhide HQW).2.1 (unhide HQW).2.2.1 (unhide HQW).2.2.2 (by have := unhide HN14; have := unhide HSW; omega))))))
                (fun c s X Y row hs hg hr => ⟨ownFrom_keepsFrom (β := Unit) (B' := W1.heap.size) hKF.size () X Y row hs.1 hg hr, hs.2.elim (fun h => .inl h) (fun h => .inr ⟨h.1, boxed_own N12 3 (fun (_ : Unit) => Value.int .i64 (K : Int)) () X Y row h.2.1 hg (fun r e => (hr r e).2), rd_own (β := Unit) (B := W1.heap.size) (fun k hk => (unhide HKS k hk).1) (unhide HQW).2.1 (unhide HQW).2.2.1 (unhide HQW).2.2.2 (by have := unhide HN14; have := unhide HSW; omega) () X Y row h.2.2 hg hr⟩)⟩)
                ⟨hB14, hB12', List.nil_prefix, hKF, unhide HRD1⟩
                (fun x a' _ => a' = { tmps := (a1.tmps.setIfInBounds 78 (.int .i64 ((x : Nat) : Int))).setIfInBounds 15 (.int .i64 ((x : Nat) : Int)), defers := [] })
                (fun _ _ _ _ _ _ hs _ _ => hs)
                ?assign2 ?body2 ?done2 ?stop2
              case assign2 =>
                rintro l2 pre' y W' K' hi hK
                rw [ha1] at hK ⊢
                simp only [List.setIfInBounds_toArray, List.set_cons_zero, List.set_cons_succ] at hK ⊢
                gi_wp2
                exact hK _ _ (KeepsFrom.refl _ _) (Keeps.refl _ _) hi rfl
              case body2 =>
                rintro l2 pre' y a'' W' hl2 _ ⟨hb14, hb12, hpre', hkf, hrd'⟩ rfl hlt'
                rw [ha1]
                simp only [List.setIfInBounds_toArray, List.set_cons_zero, List.set_cons_succ]
                obtain ⟨K2, hK2⟩ : ∃ K2, K2 = pre'.length := ⟨_, rfl⟩
                have hLE := unhide HLE
                have hkx2 : K2 < E.length := by rw [← unhide HLL]; omega
                obtain ⟨g2, o2, e2, hc⟩ := lies_at (unhide HFW W' hrd') K2 hkx2
                cases e2
                have eE : E[K2] = (((Bit.els A n 0)[K2]'(by omega) : Nat) : Int) := by simp [unhide HEE]
                rw [eE] at hc
                obtain ⟨z, hz⟩ : ∃ z, z = (Bit.els A n 0)[K2]'(by omega) := ⟨_, rfl⟩
                rw [← hz] at hc
                have HPX : Hid (pre' ++ [y] <+: Bit.els A n 0 ↔ y = z) := by
                  have h1 := List.prefix_iff_eq_take.1 hpre'
                  rw [← hK2] at h1
                  have h2 := List.take_succ_eq_append_getElem (l := Bit.els A n 0) (i := K2) (by omega)
                  rw [← h1, ← hz] at h2
                  constructor
                  · intro h
                    have h3 := List.prefix_iff_eq_take.1 h
                    rw [List.length_append, ← hK2, List.length_singleton, h2] at h3
                    simpa using h3
                  · rintro rfl
                    rw [← h2]
                    exact List.take_prefix _ _
                have hki2 : (K2 : Int) < (le : Int) := by omega
                have hkl2 : ¬ le ≤ K2 := by omega
                have hkl3 : K2 < le := by omega
                have z14 := hb14.cell
                have f14 := hb14.frozen
                rw [← hK2] at z14
                have z8 := (unhide HF8 W' hrd').cell
                have HRD2 := hide hrd'
                have HB2 := hide hb12
                have HB4 := hide hb14
                have HKF2 := hide hkf
                have HK2 := hide hK2
                clear hrd' hb12 hb14 hkf hLE hlt' eE hz hpre' hK2
                by_cases hyz : y = z
                · subst hyz
                  have HPP2 : Hid (pre' ++ [y] <+: Bit.els A n 0) := (unhide HPX).2 rfl
                  clear HPX
                  have HW5 : Hid (∀ v, (W'.setCell ⟨N14, 0, none⟩ v).cell? ⟨w.heap.size, 0, none⟩ = some (.slice bo k c2)) := fun v => (unhide HF5 _ ((unhide HRD2).box (unhide HN14).1 (fun k hk => (unhide HKS k hk).1) (unhide HQW).2.1 (unhide HQW).2.2.1 (unhide HQW).2.2.2 v)).cell
                  have z5 := unhide HW5 (.int .i64 ((K2 : Int) + 1))
                  have hwk : IntKind.i64.wrap ((K2 : Int) + 1) = (K2 : Int) + 1 := wrap_small _ (by omega) (by omega)
                  have HFIN : Hid (KeepsFrom W1.heap.size W' (W'.setCell ⟨N14, 0, none⟩ (.int .i64 ((K2 : Int) + 1))) ∧ KeepsFrom w1.heap.size W (W'.setCell ⟨N14, 0, none⟩ (.int .i64 ((K2 : Int) + 1))) ∧ Boxed (W'.setCell ⟨N14, 0, none⟩ (.int .i64 ((K2 : Int) + 1))) N12 3 (.int .i64 (K : Int)) ∧ Rd w w0 (W'.setCell ⟨N14, 0, none⟩ (.int .i64 ((K2 : Int) + 1))) ks p q n) :=
                    ⟨(KeepsOthers.setCell _ _ _).from _, (unhide HKF2).trans ((KeepsOthers.setCell _ _ _).from _), (unhide HB2).other (by have := unhide HN14; have := unhide HSW; omega) _, (unhide HRD2).box (unhide HN14).1 (fun k hk => (unhide HKS k hk).1) (unhide HQW).2.1 (unhide HQW).2.2.1 (unhide HQW).2.2.2 _⟩
                  by_cases hout : (k : Int) < (K2 : Int) + 1
                  · gi_wp2
                    exact ⟨(unhide HFIN).1, (unhide HFIN).2.1, .inr ⟨rfl, (unhide HFIN).2.2⟩⟩
                  · have hout2 : (K2 : Int) + 1 ≤ (k : Int) := by omega
                    gi_wp2
                    refine ⟨(unhide HFIN).1, fun k hk => ((unhide HFIN).2.2.2.keep k (unhide HKM k hk)).trans ((unhide HRD2).keep k (unhide HKM k hk)).symm, ?_, (unhide HFIN).2.2.1, unhide HPP2, (unhide HFIN).2.1, (unhide HFIN).2.2.2⟩
                    have hln : ((pre' ++ [y]).length : Int) = (K2 : Int) + 1 := by rw [List.length_append, ← unhide HK2]; simp
                    rw [hln]
                    exact (unhide HB4).set _
                · have hne : ¬ (y : Int) = (z : Int) := by omega
                  have hne2 : ((y : Int) != (z : Int)) = true := by simpa using hne
                  have z6 := (unhide HF6 W' (unhide HRD2)).cell
                  have f6 := (unhide HF6 W' (unhide HRD2)).frozen
                  have HPN : Hid (¬ pre' ++ [y] <+: Bit.els A n 0) := fun h => hyz ((unhide HPX).1 h)
                  clear hyz HPX
                  gi_wp2
                  exact ⟨(KeepsOthers.setCell _ _ _).from _, (unhide HKF2).trans ((KeepsOthers.setCell _ _ _).from _), .inl ⟨rfl, unhide HPN⟩⟩
              case done2 =>
                rintro ys' W' rfl ⟨_, hb12, _, hkf, hrd'⟩
                have HRD2 := hide hrd'
                have HB2 := hide hb12
                have HKF2 := hide hkf
                clear hrd' hb12 hkf
                have z7 := (unhide HF7 W' (unhide HRD2)).cell
                rw [ha1]
                obtain ⟨T, hT⟩ := (unhide HRD2).set
                obtain ⟨cs, hcs, _⟩ := hT.bq.row
                have HCS := hide hcs
                have HCQ := hide (bClear hT)
                clear hT hcs
                by_cases h41 : (40 : Int) < (K : Int) + 1
                · gi_wp2_with (refine ⟨trivial, ?_⟩; gi_at_call 26; refine (CallsIn.inRound l (callsIn_wide.2 (unhide HCQ))).mono ?_; rintro e W2 ⟨rfl, hm2, hu2⟩; have HRD3 := hide ((unhide HRD2).u1 hu2 hm2 (unhide HKS) (by have := unhide HQW; omega)); have HKF3 := hide ((unhide HKF2).trans (keepsFrom_u1 (B := w1.heap.size) hu2 (unhide HCS))); have HB3 : Hid (Boxed W2 N12 3 (.int .i64 (K : Int))) := (hu2.block N12 (unhide HB2).lt (by have := unhide HQW; have := unhide HN12; omega)).trans (unhide HB2); have z12 := (unhide HB3).cell; have f12 := (unhide HB3).frozen; clear hm2 hu2; have hwk : IntKind.i64.wrap ((K : Int) + 1) = (K : Int) + 1 := wrap_small _ (by omega) (by omega); have HFIN : Hid (KeepsFrom w1.heap.size W (W2.setCell ⟨N12, 0, none⟩ (.int .i64 ((K : Int) + 1))) ∧ Rd w w0 (W2.setCell ⟨N12, 0, none⟩ (.int .i64 ((K : Int) + 1))) ks p q n ∧ Boxed (W2.setCell ⟨N12, 0, none⟩ (.int .i64 ((K : Int) + 1))) N12 3 (.int .i64 ((K : Int) + 1))) := ⟨(unhide HKF3).trans ((KeepsOthers.setCell _ _ _).from _), (unhide HRD3).box (unhide HN12) (fun k hk => (unhide HKS k hk).1) (unhide HQW).2.1 (unhide HQW).2.2.1 (unhide HQW).2.2.2 _, (unhide HB3).set _⟩)
                  refine ⟨(unhide HFIN).1, .inr ⟨rfl, ⟨?_, ?_⟩, (unhide HFIN).2.1⟩⟩
                  · have h42 : (K : Int) + 1 = 41 := by have := unhide HK0; omega
                    have := (unhide HFIN).2.2
                    rw [h42] at this ⊢
                    exact this
                  · rw [List.length_append, ← unhide HK0, List.length_singleton]; have := unhide HK0; omega
                · have h43 : (K : Int) + 1 ≤ 40 := by omega
                  gi_wp2_with (refine ⟨trivial, ?_⟩; gi_at_call 26; refine (CallsIn.inRound l (callsIn_wide.2 (unhide HCQ))).mono ?_; rintro e W2 ⟨rfl, hm2, hu2⟩; have HRD3 := hide ((unhide HRD2).u1 hu2 hm2 (unhide HKS) (by have := unhide HQW; omega)); have HKF3 := hide ((unhide HKF2).trans (keepsFrom_u1 (B := w1.heap.size) hu2 (unhide HCS))); have HB3 : Hid (Boxed W2 N12 3 (.int .i64 (K : Int))) := (hu2.block N12 (unhide HB2).lt (by have := unhide HQW; have := unhide HN12; omega)).trans (unhide HB2); have z12 := (unhide HB3).cell; have f12 := (unhide HB3).frozen; clear hm2 hu2; have hwk : IntKind.i64.wrap ((K : Int) + 1) = (K : Int) + 1 := wrap_small _ (by omega) (by omega); have HFIN : Hid (KeepsFrom w1.heap.size W (W2.setCell ⟨N12, 0, none⟩ (.int .i64 ((K : Int) + 1))) ∧ Rd w w0 (W2.setCell ⟨N12, 0, none⟩ (.int .i64 ((K : Int) + 1))) ks p q n ∧ Boxed (W2.setCell ⟨N12, 0, none⟩ (.int .i64 ((K : Int) + 1))) N12 3 (.int .i64 ((K : Int) + 1))) := ⟨(unhide HKF3).trans ((KeepsOthers.setCell _ _ _).from _), (unhide HRD3).box (unhide HN12) (fun k hk => (unhide HKS k hk).1) (unhide HQW).2.1 (unhide HQW).2.2.1 (unhide HQW).2.2.2 _, (unhide HB3).set _⟩)
                  refine ⟨(unhide HFIN).1, fun k hk => ((unhide HFIN).2.1.keep k (unhide HKM k hk)).trans ((unhide HRD).keep k (unhide HKM k hk)).symm, ?_, ⟨unhide HPP, ?_⟩, (unhide HFIN).2.1⟩
                  · have hln : ((pre ++ [x]).length : Int) = (K : Int) + 1 := by rw [List.length_append, ← unhide HK0]; simp
                    rw [hln]
                    exact (unhide HFIN).2.2
                  · rw [List.length_append, ← unhide HK0, List.length_singleton]; omega
              case stop2 =>
                rintro c pre' W' hSp ⟨hkf, (⟨rfl, hno⟩ | ⟨rfl, hb12, hrd'⟩)⟩
                · exact absurd hSp hno
                · have HRD2 := hide hrd'
                  have HB2 := hide hb12
                  have HKF2 := hide hkf
                  clear hrd' hb12 hkf
                  have z7 := (unhide HF7 W' (unhide HRD2)).cell
                  rw [ha1]
                  obtain ⟨T, hT⟩ := (unhide HRD2).set
                  obtain ⟨cs, hcs, _⟩ := hT.bq.row
                  have HCS := hide hcs
                  have HCQ := hide (bClear hT)
                  clear hT hcs
                  by_cases h41 : (40 : Int) < (K : Int) + 1
                  · gi_wp2_with (refine ⟨trivial, ?_⟩; gi_at_call 26; refine (CallsIn.inRound l (callsIn_wide.2 (unhide HCQ))).mono ?_; rintro e W2 ⟨rfl, hm2, hu2⟩; have HRD3 := hide ((unhide HRD2).u1 hu2 hm2 (unhide HKS) (by have := unhide HQW; omega)); have HKF3 := hide ((unhide HKF2).trans (keepsFrom_u1 (B := w1.heap.size) hu2 (unhide HCS))); have HB3 : Hid (Boxed W2 N12 3 (.int .i64 (K : Int))) := (hu2.block N12 (unhide HB2).lt (by have := unhide HQW; have := unhide HN12; omega)).trans (unhide HB2); have z12 := (unhide HB3).cell; have f12 := (unhide HB3).frozen; clear hm2 hu2; have hwk : IntKind.i64.wrap ((K : Int) + 1) = (K : Int) + 1 := wrap_small _ (by omega) (by omega); have HFIN : Hid (KeepsFrom w1.heap.size W (W2.setCell ⟨N12, 0, none⟩ (.int .i64 ((K : Int) + 1))) ∧ Rd w w0 (W2.setCell ⟨N12, 0, none⟩ (.int .i64 ((K : Int) + 1))) ks p q n ∧ Boxed (W2.setCell ⟨N12, 0, none⟩ (.int .i64 ((K : Int) + 1))) N12 3 (.int .i64 ((K : Int) + 1))) := ⟨(unhide HKF3).trans ((KeepsOthers.setCell _ _ _).from _), (unhide HRD3).box (unhide HN12) (fun k hk => (unhide HKS k hk).1) (unhide HQW).2.1 (unhide HQW).2.2.1 (unhide HQW).2.2.2 _, (unhide HB3).set _⟩)
                    refine ⟨(unhide HFIN).1, .inr ⟨rfl, ⟨?_, ?_⟩, (unhide HFIN).2.1⟩⟩
                    · have h42 : (K : Int) + 1 = 41 := by have := unhide HK0; omega
                      have := (unhide HFIN).2.2
                      rw [h42] at this ⊢
                      exact this
                    · rw [List.length_append, ← unhide HK0, List.length_singleton]; have := unhide HK0; omega
                  · have h43 : (K : Int) + 1 ≤ 40 := by omega
                    gi_wp2_with (refine ⟨trivial, ?_⟩; gi_at_call 26; refine (CallsIn.inRound l (callsIn_wide.2 (unhide HCQ))).mono ?_; rintro e W2 ⟨rfl, hm2, hu2⟩; have HRD3 := hide ((unhide HRD2).u1 hu2 hm2 (unhide HKS) (by have := unhide HQW; omega)); have HKF3 := hide ((unhide HKF2).trans (keepsFrom_u1 (B := w1.heap.size) hu2 (unhide HCS))); have HB3 : Hid (Boxed W2 N12 3 (.int .i64 (K : Int))) := (hu2.block N12 (unhide HB2).lt (by have := unhide HQW; have := unhide HN12; omega)).trans (unhide HB2); have z12 := (unhide HB3).cell; have f12 := (unhide HB3).frozen; clear hm2 hu2; have hwk : IntKind.i64.wrap ((K : Int) + 1) = (K : Int) + 1 := wrap_small _ (by omega) (by omega); have HFIN : Hid (KeepsFrom w1.heap.size W (W2.setCell ⟨N12, 0, none⟩ (.int .i64 ((K : Int) + 1))) ∧ Rd w w0 (W2.setCell ⟨N12, 0, none⟩ (.int .i64 ((K : Int) + 1))) ks p q n ∧ Boxed (W2.setCell ⟨N12, 0, none⟩ (.int .i64 ((K : Int) + 1))) N12 3 (.int .i64 ((K : Int) + 1))) := ⟨(unhide HKF3).trans ((KeepsOthers.setCell _ _ _).from _), (unhide HRD3).box (unhide HN12) (fun k hk => (unhide HKS k hk).1) (unhide HQW).2.1 (unhide HQW).2.2.1 (unhide HQW).2.2.2 _, (unhide HB3).set _⟩)
                    refine ⟨(unhide HFIN).1, fun k hk => ((unhide HFIN).2.1.keep k (unhide HKM k hk)).trans ((unhide HRD).keep k (unhide HKM k hk)).symm, ?_, ⟨unhide HPP, ?_⟩, (unhide HFIN).2.1⟩
                    · have hln : ((pre ++ [x]).length : Int) = (K : Int) + 1 := by rw [List.length_append, ← unhide HK0]; simp
                      rw [hln]
                      exact (unhide HFIN).2.2
                    · rw [List.length_append, ← unhide HK0, List.length_singleton]; omega
            · have hne : ¬ (x : Int) = (y : Int) := by omega
              have hne2 : ((x : Int) != (y : Int)) = true := by simpa using hne
              have hkl : K < le := by omega
              have hkl2 : ¬ le ≤ K := by omega
              have z6 := (unhide HF6 W (unhide HRD)).cell
              have f6 := (unhide HF6 W (unhide HRD)).frozen
              have HPN : Hid (¬ pre ++ [x] <+: Bit.els A n 0) := fun h => hxy ((unhide HPX).1 h)
              clear hxy HPX
              gi_wp2
              exact ⟨(KeepsOthers.setCell _ _ _).from _, .inl ⟨rfl, unhide HPN⟩⟩
          case done =>
            rintro D ys' W hD rfl ⟨hbx, ⟨_, h40⟩, hrd⟩ hdf
            exact unhide HTL D W _ hD hbx (by have := unhide HLE; omega) hrd hdf
          case stop =>
            rintro D c pre W hD hSp (⟨rfl, hno⟩ | ⟨rfl, ⟨hbx, h41⟩, hrd⟩) hdf
            · exact absurd hSp hno
            · have hp41 := hSp.length_le
              have := unhide HTL D W 41 hD hbx (by have := unhide HLE; omega) hrd hdf
              rw [hQ0] at this ⊢
              exact wpIn_exit this
end Go.Proofs.YtinfmomhbegfhaaDoor
