/- The disk's laws: DiskLoads. -/
import Derived.Test.YtfdibmbffmgikaaVj
namespace Go.Proofs.Ytfdibmbffmgikaa
open Go.RowKit Go.Lib

theorem Dsk.down {B B' : Nat} {u : World} {D : Nat} {F : List Nat} {d : Dk} (h : Dsk B u D F d) (hb : B' ≤ B) : Dsk B' u D F d := by
  obtain ⟨L, T, v, f, rfl, h⟩ := h
  refine ⟨L, T, v, f, rfl, ⟨{ h.toDskM with pend := ⟨h.pend.1, ?_⟩, bD := Nat.le_trans hb h.bD, bL := Nat.le_trans hb h.bL, bT := Nat.le_trans hb h.bT }, h.lst⟩⟩
  rcases h.pend.2 with h' | ⟨g, cap, cur, hv, h1, h2⟩
  · exact .inl h'
  · exact .inr ⟨g, cap, cur, hv, Nat.le_trans hb h1, h2⟩
theorem copyStrs (u : World) (B : Nat) (ls : List ByteArray) (ao : Option Addr) (cap : Nat) (h : Tb u B ao ls) (hn : ls.length ≤ 1048576) :
    ∃ ao' cap' W', (Builtin.append_ #[36, 36] 36 #[.slice (some ⟨u.heap.size, 0, none⟩) 0 0, .slice ao ls.length cap]).run Try.prog (u.alloc (.cells #[] 9)) = .ok (.slice ao' ls.length cap') W' ∧ W'.ownsRow u.heap.size 9 1 (.slice ao' ls.length cap') ls.length (sv ls) ∧ Below u.heap.size u W' := by
  obtain ⟨i0, hi, hz0, hz1, hz2⟩ := info_parts infoStr
  have hb0 : Below u.heap.size u (u.alloc (.cells #[] 9)) := (Below.refl _ _).alloc (Nat.le_refl _) _
  have hown : (u.alloc (.cells #[] 9)).ownsRow u.heap.size 9 1 (.slice (some ⟨u.heap.size, 0, none⟩) 0 0) 0 [] := World.ownsRow_made u #[] 0 (Nat.le_refl _) (by decide) rfl
  by_cases h0 : 0 < ls.length
  · obtain ⟨v', W', hr, ho, hb⟩ := copyOwn u ls ao cap (fun h1 => by obtain ⟨g, o, e1, _, e2⟩ := h h1; exact ⟨g, o, e1, e2⟩) h0 hn
    obtain ⟨ao', cap', rfl⟩ := ownsRow_len ho
    exact ⟨_, _, W', hr, ho, hb⟩
  · have hz : ls = [] := List.eq_nil_of_length_eq_zero (by omega)
    subst hz
    exact ⟨_, _, _, append_nothing _ _ _ _ Try.underlying36 hi _ 0 0 cap ao (Nat.le_refl _), hown, hb0⟩
theorem loadPrep (u : World) (B : Nat) (ls : List ByteArray) (ao : Option Addr) (cap n : Nat) (hnn : n = ls.length) (h : Tb u B ao ls) (hn : ls.length ≤ 1048576) :
    ∃ ao1 c1 W2 g c W3, (Builtin.append_ #[36, 36] 36 #[.slice (some ⟨u.heap.size, 0, none⟩) 0 0, .slice ao n cap]).run Try.prog (u.alloc (.cells #[] 9)) = .ok (.slice ao1 n c1) W2 ∧
      (Builtin.append_ #[36, 36] 36 #[.slice ao1 n c1, .slice (some ⟨W2.heap.size, 0, none⟩) 1 1]).run Try.prog (W2.alloc (.cells #[(.string ⟨#[109, 97, 114, 107]⟩)] 9)) = .ok (.slice (some ⟨g, 0, none⟩) (n + 1) c) W3 ∧
      Hid (W3.ownsRow 0 9 1 (.slice (some ⟨g, 0, none⟩) (n + 1) c) (n + 1) (sv ls ++ [(.string ⟨#[109, 97, 114, 107]⟩)]) ∧ Below u.heap.size u W3 ∧ u.heap.size ≤ g ∧ n + 1 ≤ c ∧ g < W3.heap.size) := by
  subst hnn
  obtain ⟨i0, hi, hz0, hz1, hz2⟩ := info_parts infoStr
  obtain ⟨ao1, c1, W2, hr1, ho1, hb1⟩ := copyStrs u B ls ao cap h hn
  have hown : (W2.alloc (.cells #[(.string ⟨#[109, 97, 114, 107]⟩)] 9)).ownsRow u.heap.size 9 1 (.slice ao1 ls.length c1) ls.length (sv ls) := ownsRow_keep ho1 fun q hq => Deep.blk_alloc_lt W2 _ q (ho1.lt q hq).2
  obtain ⟨v', W3, hr2, ho2, hg2, hnw⟩ := run_append_own' (P := Try.prog) (W2.alloc (.cells #[(.string ⟨#[109, 97, 114, 107]⟩)] 9)) u.heap.size 36 36 9 i0 (.string .empty) 1 16 Try.underlying36 hi hz0 hz1 hz2 rfl (by decide) _ ls.length (sv ls) hown ⟨W2.heap.size, 0, none⟩ 1 1 [(.string ⟨#[109, 97, 114, 107]⟩)] rfl (fun j y hy => by
    rw [Addr.add_mid, Nat.zero_add, cell_of_row _ W2.heap.size j _ _ _ (heap_alloc_new W2 _)]
    simpa using hy) (fun y hy => by rw [List.mem_singleton.1 hy]; rfl) (by simp only [maxLen]; omega) (by omega) (by have := hb1.size; simp; omega)
  have hb2 : Below u.heap.size u (W2.alloc (.cells #[(.string ⟨#[109, 97, 114, 107]⟩)] 9)) := hb1.alloc hb1.size _
  have hb3 : Below u.heap.size u W3 := hb2.grown hg2 hb2.size (fun k e => (hown.lt k e).1)
  rcases ho2.2 with ⟨_, h2⟩ | ⟨g, cap', cur, rfl, h1, h2, h3, h4, h5, h6⟩
  · omega
  · exact ⟨ao1, c1, W2, g, cap', W3, hr1, hr2, ⟨ho2.1, .inr ⟨g, cap', cur, rfl, Nat.zero_le _, h2, h3, h4, h5, h6⟩⟩, hb3, h1, h3, (Array.getElem?_eq_some_iff.1 h2).1⟩
theorem dLoad1 (ls : List ByteArray) (hL : loads ls = true) (ao : Option Addr) (cap : Nat) (u : World) (h : Ts u ao ls) : Calls Try.prog 25 #[.slice ao ls.length cap] u fun e u' => ∃ D F, e = .returned (.tuple #[.pointer (some ⟨D, 0, none⟩), .int .i64 0]) ∧ Dsk u.heap.size u' D F (Dk.loaded ls) ∧ Below u.heap.size u u' :=
  (dLoad ls ao cap u h).mono fun e u' ⟨hb, hp⟩ => by
    unfold LoadPost at hp
    rw [hL, if_pos rfl] at hp
    obtain ⟨D, F, he, hd⟩ := hp
    exact ⟨D, F, he, hd, hb⟩
theorem dLoad0 (ls : List ByteArray) (hL : loads ls = false) (ao : Option Addr) (cap : Nat) (u : World) (h : Ts u ao ls) : Calls Try.prog 25 #[.slice ao ls.length cap] u fun e u' => e = .returned (.tuple #[.pointer none, .int .i64 1]) ∧ Below u.heap.size u u' :=
  (dLoad ls ao cap u h).mono fun e u' ⟨hb, hp⟩ => by
    unfold LoadPost at hp
    rw [hL, if_neg (by decide)] at hp
    exact ⟨hp, hb⟩
theorem rLoad1 (ls : List ByteArray) (hL : loads ls = true) (ao : Option Addr) (cap : Nat) (u : World) (h : Ts u ao ls) (hn : ls.length ≤ 1048576) : Calls Try.prog 24 #[.slice ao ls.length cap] u fun e u' => ∃ M G, e = .returned (.tuple #[.pointer (some ⟨M, 0, none⟩), .int .i64 0]) ∧ Rk u.heap.size u' M G (Dk.loaded ls) ∧ Below u.heap.size u u' :=
  (rLoad ls ao cap u h hn).mono fun e u' ⟨hb, hp⟩ => by
    unfold RLoadPost at hp
    rw [hL, if_pos rfl] at hp
    obtain ⟨D, F, he, hd⟩ := hp
    exact ⟨D, F, he, hd, hb⟩
theorem rLoad0 (ls : List ByteArray) (hL : loads ls = false) (ao : Option Addr) (cap : Nat) (u : World) (h : Ts u ao ls) (hn : ls.length ≤ 1048576) : Calls Try.prog 24 #[.slice ao ls.length cap] u fun e u' => e = .returned (.tuple #[.pointer none, .int .i64 1]) ∧ Below u.heap.size u u' :=
  (rLoad ls ao cap u h hn).mono fun e u' ⟨hb, hp⟩ => by
    unfold RLoadPost at hp
    rw [hL, if_neg (by decide)] at hp
    exact ⟨hp, hb⟩
theorem Tb.ts {u : World} {B : Nat} {ao : Option Addr} {ls : List ByteArray} (h : Tb u B ao ls) : Ts u ao ls := fun h0 => by
  obtain ⟨g, o, e1, _, e2⟩ := h h0
  exact ⟨g, o, e1, e2⟩
theorem own_sv {u : World} {g c n : Nat} {ls : List ByteArray} {r : List Value} {m : Nat} (hn : n = ls.length) (hm : n ≤ m) (h : u.ownsRow 0 9 1 (.slice (some ⟨g, 0, none⟩) m c) m (sv ls ++ r)) : Ts u (some ⟨g, 0, none⟩) ls := fun _ => ⟨g, 0, rfl, fun j hj => by
  obtain ⟨g2, c2, y, e1, e2, e3, _⟩ := ownsRow_cell h j (by omega)
  obtain ⟨rfl, rfl⟩ : g = g2 ∧ c = c2 := by simpa using e1
  rw [Nat.zero_add, e3, ← e2, List.getElem?_append_left (by simpa [sv] using hj)]
  simp [sv, hj]⟩
set_option maxRecDepth 100000 in
set_option maxHeartbeats 16000000 in
theorem loads_walk (ls : List ByteArray) (ao : Option Addr) (cap : Nat) (l : List St) (ao2 : Option Addr) (cap2 : Nat) (u : World) (hT : Tb u u.heap.size ao ls) (hS : Sts u u.heap.size ao2 l) (h1 : ls.length ≤ 1048576) (h2 : l.length ≤ 1048576) (h3 : ∀ x ∈ l, x.Small) :
    Calls Try.prog 5 #[.slice ao ls.length cap, .slice ao2 l.length cap2] u fun e u' => e = .returned (.bool true) ∧ Below u.heap.size u u' := by
  obtain ⟨B, hB⟩ : ∃ B, B = u.heap.size := ⟨_, rfl⟩
  rw [← hB] at hT hS ⊢
  have HB := hide hB
  have HLe : Hid (∀ w, Below B u w → B ≤ w.heap.size) := fun w h => by rw [hB]; exact h.size
  obtain ⟨P, hP⟩ : ∃ P, P = ls.length := ⟨_, rfl⟩
  obtain ⟨m, hm⟩ : ∃ m, m = l.length := ⟨_, rfl⟩
  have HP := hide hP
  have HM := hide hm
  have HT := hide hT
  have HS := hide hS
  have HN1 := hide h1
  have HN2 := hide (And.intro h2 h3)
  have hP1 : P ≤ 1048576 := by omega
  have hPi : (P : Int) ≤ 1048576 := by omega
  rw [← hP, ← hm]
  clear hB hT hS h1 h2 h3 hm hP
  cases hL : loads ls
  · have HRL := hide (rLoad0 ls hL ao cap u (unhide HT).ts (unhide HN1))
    rw [← unhide HP] at HRL
    go_enter Try.func5, Try.ntmps5
    go_wp2_with fail
    refine (unhide HRL).mono ?_
    rintro e w1 ⟨rfl, hb⟩
    have HB1 : Hid (Below B u w1) := by rw [unhide HB]; exact hb
    clear hb HRL
    obtain ⟨ao1, c1, W2, g, c, W3, hr1, hr2, HOW⟩ := loadPrep w1 B ls ao cap P (unhide HP) ((unhide HT).below (unhide HB1)) (unhide HN1)
    have hci : (P : Int) ≤ (c : Int) := by have := (unhide HOW).2.2.2.1; omega
    have HB3 : Hid (Below B u W3) := (unhide HB1).trans ((unhide HOW).2.1.mono (unhide HLe _ (unhide HB1)))
    go_wp2_with (first
      | (at_builtin; refine append_to (by rfl) (.tmp 16) (.tmp 17) 36 36 (by rfl) (some 18) (by rfl) 36 (by rfl) _ _ (by rfl) (by rfl) _ _ hr1 ?_; simp only [Act.put, List.setIfInBounds_toArray, List.set_cons_zero, List.set_cons_succ]; clear hr1)
      | (at_builtin; refine append_to (by rfl) (.tmp 19) (.tmp 20) 36 36 (by rfl) (some 21) (by rfl) 36 (by rfl) _ _ (by rfl) (by rfl) _ _ hr2 ?_; simp only [Act.put, List.setIfInBounds_toArray, List.set_cons_zero, List.set_cons_succ]; clear hr2))
    have HKL := hide (dLoad0 ls hL (some ⟨g, 0, none⟩) c W3 (own_sv (unhide HP) (Nat.le_succ _) (unhide HOW).1))
    rw [← unhide HP] at HKL
    refine (unhide HKL).mono ?_
    rintro e w4 ⟨rfl, hb⟩
    have HB4 : Hid (Below B u w4) := (unhide HB3).trans (hb.mono (unhide HLe _ (unhide HB3)))
    have HO4 : Hid (w4.ownsRow 0 9 1 (.slice (some ⟨g, 0, none⟩) (P + 1) c) (P + 1) (sv ls ++ [(.string ⟨#[109, 97, 114, 107]⟩)])) := ownsRow_keep (unhide HOW).1 fun k hk => by simp [Value.ownBlock] at hk; rw [← hk]; exact hb.block g (unhide HOW).2.2.2.2
    have HLS : Hid ((sv ls).length = P) := by rw [unhide HP]; exact List.length_map _
    have hmk : w4.cell? ⟨g, P, none⟩ = some (.string ⟨#[109, 97, 114, 107]⟩) := by
      obtain ⟨g2, c2, y, e1, e2, e3, _⟩ := ownsRow_cell (unhide HO4) P (by omega)
      obtain ⟨rfl, rfl⟩ : g = g2 ∧ c = c2 := by simpa using e1
      rw [e3, ← e2, List.getElem?_append_right (by rw [unhide HLS]; exact Nat.le_refl _), unhide HLS, Nat.sub_self]
      rfl
    have hix := ixTexts g 0 (P + 1) c P (by omega)
    rw [Nat.zero_add] at hix
    have HSM := hide (lSame ls (some ⟨g, 0, none⟩) ao c cap w4 (own_sv (unhide HP) (Nat.le_succ _) (unhide HO4)) ((unhide HT).below (unhide HB4)).ts (by rw [← unhide HP]; omega))
    rw [← unhide HP] at HSM
    clear hb HKL
    go_wp2_with fail
    refine (unhide HSM).mono ?_
    rintro e w5 ⟨rfl, hu⟩
    have HU5 := hide hu
    have HB5 : Hid (Below B u w5) := (unhide HB4).trans (hu.below (unhide HLe _ (unhide HB4)) (fun k hk => by cases hk))
    have HG5 : Hid (g < w4.heap.size ∧ B ≤ g) := ⟨(unhide HO4).lt g rfl |>.2, Nat.le_trans (unhide HLe _ (unhide HB1)) (unhide HOW).2.2.1⟩
    have HO5 : Hid (w5.ownsRow 0 9 1 (.slice (some ⟨g, 0, none⟩) (P + 1) c) (P + 1) (sv ls ++ [(.string ⟨#[109, 97, 114, 107]⟩)])) := ownsRow_keep (unhide HO4) fun k hk => by simp [Value.ownBlock] at hk; rw [← hk]; exact hu.block g (unhide HG5).1 (by simp)
    clear hu HSM hmk hix
    go_wp2
    go_loopw [10] (fun i wr => ∃ (k : Nat) (ys : List Value), k ≤ P + 1 ∧ i = .int .i64 k ∧ Hid (wr.ownsRow 0 9 1 (.slice (some ⟨g, 0, none⟩) (P + 1) c) (P + 1) ys ∧ (∀ x ∈ ys, ∃ y, x = .string y) ∧ UpS w5 wr [g])) (fun i _ => P + 1 - (intOf i).toNat)
    case atStart => exact ⟨0, _, Nat.zero_le _, rfl, unhide HO5, fun x hx => by
      rcases List.mem_append.1 hx with hx | hx
      · obtain ⟨b, _, rfl⟩ := List.mem_map.1 hx; exact ⟨_, rfl⟩
      · rw [List.mem_singleton.1 hx]; exact ⟨_, rfl⟩, UpS.refl _ _⟩
    case round =>
      obtain ⟨k, ys, hk, rfl, HI⟩ := hrel
      by_cases hlt : k < P + 1
      · have hki : (k : Int) < (P : Int) + 1 := by omega
        obtain ⟨ho, hy, hu⟩ := unhide HI
        obtain ⟨g2, c2, x, hv, hx, hc, hz⟩ := ownsRow_cell ho k hlt
        obtain ⟨rfl, rfl⟩ : g = g2 ∧ c = c2 := by simpa using hv
        obtain ⟨y, rfl⟩ := hy x (List.mem_of_getElem? hx)
        have hix := ixTexts g 0 (P + 1) c k hlt
        rw [Nat.zero_add] at hix
        have HNX : Hid ((wr.setCell ⟨g, k, none⟩ (.string ⟨#[126]⟩)).ownsRow 0 9 1 (.slice (some ⟨g, 0, none⟩) (P + 1) c) (P + 1) (ys.set k (.string ⟨#[126]⟩)) ∧ (∀ x ∈ ys.set k (.string ⟨#[126]⟩), ∃ y, x = .string y) ∧ UpS w5 (wr.setCell ⟨g, k, none⟩ (.string ⟨#[126]⟩)) [g]) :=
          ⟨ownsRow_set ho k _, fun x hx => (List.mem_or_eq_of_mem_set hx).elim (hy x) (fun h => ⟨_, h⟩), hu.setCell (.inl (by simp)) _⟩
        clear ho hy hu hv hx HI
        go_wp2
        go_roundw
        case rel => exact ⟨k + 1, _, by omega, by go_num, HNX⟩
        case measure => simp [intOf]; omega
      · have hkk : k = P + 1 := by omega
        subst hkk
        have HB6 : Hid (Below B u wr) := (unhide HB5).trans ((unhide HI).2.2.below (unhide HLe _ (unhide HB5)) (fun k hk => by rw [List.mem_singleton.1 hk]; exact (unhide HG5).2))
        go_wp2
        go_ret
        exact ⟨rfl, unhide HB6⟩
  · have HRL := hide (rLoad1 ls hL ao cap u (unhide HT).ts (unhide HN1))
    rw [← unhide HP] at HRL
    go_enter Try.func5, Try.ntmps5
    go_wp2_with fail
    refine (unhide HRL).mono ?_
    rintro e w1 ⟨M, G, rfl, hrk, hb⟩
    have HRK : Hid (Rk B w1 M G (Dk.loaded ls)) := by rw [unhide HB]; exact hrk
    have HGE : Hid (∀ k ∈ G, k < w1.heap.size) := fun k hk => (hrk.ge k hk).2
    clear hrk
    have HB1 : Hid (Below B u w1) := by rw [unhide HB]; exact hb
    clear hb HRL
    obtain ⟨ao1, c1, W2, g, c, W3, hr1, hr2, HOW⟩ := loadPrep w1 B ls ao cap P (unhide HP) ((unhide HT).below (unhide HB1)) (unhide HN1)
    have hci : (P : Int) ≤ (c : Int) := by have := (unhide HOW).2.2.2.1; omega
    have HB3 : Hid (Below B u W3) := (unhide HB1).trans ((unhide HOW).2.1.mono (unhide HLe _ (unhide HB1)))
    go_wp2_with (first
      | (at_builtin; refine append_to (by rfl) (.tmp 16) (.tmp 17) 36 36 (by rfl) (some 18) (by rfl) 36 (by rfl) _ _ (by rfl) (by rfl) _ _ hr1 ?_; simp only [Act.put, List.setIfInBounds_toArray, List.set_cons_zero, List.set_cons_succ]; clear hr1)
      | (at_builtin; refine append_to (by rfl) (.tmp 19) (.tmp 20) 36 36 (by rfl) (some 21) (by rfl) 36 (by rfl) _ _ (by rfl) (by rfl) _ _ hr2 ?_; simp only [Act.put, List.setIfInBounds_toArray, List.set_cons_zero, List.set_cons_succ]; clear hr2))
    have HKL := hide (dLoad1 ls hL (some ⟨g, 0, none⟩) c W3 (own_sv (unhide HP) (Nat.le_succ _) (unhide HOW).1))
    rw [← unhide HP] at HKL
    refine (unhide HKL).mono ?_
    rintro e w4 ⟨D, F, rfl, hdk, hb⟩
    have HDK : Hid (Dsk W3.heap.size w4 D F (Dk.loaded ls)) := hdk
    have HRK4 : Hid (Rk B w4 M G (Dk.loaded ls)) := ((unhide HRK).below (unhide HOW).2.1).below hb
    clear hdk
    have HB4 : Hid (Below B u w4) := (unhide HB3).trans (hb.mono (unhide HLe _ (unhide HB3)))
    have HO4 : Hid (w4.ownsRow 0 9 1 (.slice (some ⟨g, 0, none⟩) (P + 1) c) (P + 1) (sv ls ++ [(.string ⟨#[109, 97, 114, 107]⟩)])) := ownsRow_keep (unhide HOW).1 fun k hk => by simp [Value.ownBlock] at hk; rw [← hk]; exact hb.block g (unhide HOW).2.2.2.2
    have HLS : Hid ((sv ls).length = P) := by rw [unhide HP]; exact List.length_map _
    have hmk : w4.cell? ⟨g, P, none⟩ = some (.string ⟨#[109, 97, 114, 107]⟩) := by
      obtain ⟨g2, c2, y, e1, e2, e3, _⟩ := ownsRow_cell (unhide HO4) P (by omega)
      obtain ⟨rfl, rfl⟩ : g = g2 ∧ c = c2 := by simpa using e1
      rw [e3, ← e2, List.getElem?_append_right (by rw [unhide HLS]; exact Nat.le_refl _), unhide HLS, Nat.sub_self]
      rfl
    have hix := ixTexts g 0 (P + 1) c P (by omega)
    rw [Nat.zero_add] at hix
    have HSM := hide (lSame ls (some ⟨g, 0, none⟩) ao c cap w4 (own_sv (unhide HP) (Nat.le_succ _) (unhide HO4)) ((unhide HT).below (unhide HB4)).ts (by rw [← unhide HP]; omega))
    rw [← unhide HP] at HSM
    clear hb HKL
    go_wp2_with fail
    refine (unhide HSM).mono ?_
    rintro e w5 ⟨rfl, hu⟩
    have HU5 := hide hu
    have HB5 : Hid (Below B u w5) := (unhide HB4).trans (hu.below (unhide HLe _ (unhide HB4)) (fun k hk => by cases hk))
    have HG5 : Hid (g < w4.heap.size ∧ B ≤ g) := ⟨(unhide HO4).lt g rfl |>.2, Nat.le_trans (unhide HLe _ (unhide HB1)) (unhide HOW).2.2.1⟩
    have HO5 : Hid (w5.ownsRow 0 9 1 (.slice (some ⟨g, 0, none⟩) (P + 1) c) (P + 1) (sv ls ++ [(.string ⟨#[109, 97, 114, 107]⟩)])) := ownsRow_keep (unhide HO4) fun k hk => by simp [Value.ownBlock] at hk; rw [← hk]; exact hu.block g (unhide HG5).1 (by simp)
    clear hu HSM hmk hix
    go_wp2
    go_loopw [10] (fun i wr => ∃ (k : Nat) (ys : List Value), k ≤ P + 1 ∧ i = .int .i64 k ∧ Hid (wr.ownsRow 0 9 1 (.slice (some ⟨g, 0, none⟩) (P + 1) c) (P + 1) ys ∧ (∀ x ∈ ys, ∃ y, x = .string y) ∧ UpS w5 wr [g])) (fun i _ => P + 1 - (intOf i).toNat)
    case atStart => exact ⟨0, _, Nat.zero_le _, rfl, unhide HO5, fun x hx => by
      rcases List.mem_append.1 hx with hx | hx
      · obtain ⟨b, _, rfl⟩ := List.mem_map.1 hx; exact ⟨_, rfl⟩
      · rw [List.mem_singleton.1 hx]; exact ⟨_, rfl⟩, UpS.refl _ _⟩
    case round =>
      obtain ⟨k, ys, hk, rfl, HI⟩ := hrel
      by_cases hlt : k < P + 1
      · have hki : (k : Int) < (P : Int) + 1 := by omega
        obtain ⟨ho, hy, hu⟩ := unhide HI
        obtain ⟨g2, c2, x, hv, hx, hc, hz⟩ := ownsRow_cell ho k hlt
        obtain ⟨rfl, rfl⟩ : g = g2 ∧ c = c2 := by simpa using hv
        obtain ⟨y, rfl⟩ := hy x (List.mem_of_getElem? hx)
        have hix := ixTexts g 0 (P + 1) c k hlt
        rw [Nat.zero_add] at hix
        have HNX : Hid ((wr.setCell ⟨g, k, none⟩ (.string ⟨#[126]⟩)).ownsRow 0 9 1 (.slice (some ⟨g, 0, none⟩) (P + 1) c) (P + 1) (ys.set k (.string ⟨#[126]⟩)) ∧ (∀ x ∈ ys.set k (.string ⟨#[126]⟩), ∃ y, x = .string y) ∧ UpS w5 (wr.setCell ⟨g, k, none⟩ (.string ⟨#[126]⟩)) [g]) :=
          ⟨ownsRow_set ho k _, fun x hx => (List.mem_or_eq_of_mem_set hx).elim (hy x) (fun h => ⟨_, h⟩), hu.setCell (.inl (by simp)) _⟩
        clear ho hy hu hv hx HI
        go_wp2
        go_roundw
        case rel => exact ⟨k + 1, _, by omega, by go_num, HNX⟩
        case measure => simp [intOf]; omega
      · have hkk : k = P + 1 := by omega
        subst hkk
        have HB6 : Hid (Below B u wr) := (unhide HB5).trans ((unhide HI).2.2.below (unhide HLe _ (unhide HB5)) (fun k hk => by rw [List.mem_singleton.1 hk]; exact (unhide HG5).2))
        have HT6 : Hid (Two B wr D M F G (Dk.loaded ls) (Dk.loaded ls)) := by
          have hgW : g < W3.heap.size := (unhide HOW).2.2.2.2
          have hW13 : w1.heap.size ≤ W3.heap.size := (unhide HOW).2.1.size
          have hg1 : w1.heap.size ≤ g := (unhide HOW).2.2.1
          have t4 : Two B w4 D M F G (Dk.loaded ls) (Dk.loaded ls) := ⟨(unhide HDK).down (unhide HLe _ (unhide HB3)), unhide HRK4, fun k hk hx => by have := ((unhide HDK).ge k hk).1; have := unhide HGE k hx; omega⟩
          refine (t4.upd (unhide HU5) (fun _ _ => by simp)).upd (unhide HI).2.2 (fun k hk hx => ?_)
          rw [List.mem_singleton.1 hx] at hk
          rcases List.mem_append.1 hk with hk | hk
          · have := ((unhide HDK).ge g hk).1; omega
          · have := unhide HGE g hk; omega
        have HPL := hide (lPlays (unhide HT6) (unhide HLe _ (unhide HB6)) (Nat.le_refl _) l ao2 cap2 ((unhide HS).below (unhide HB6)) (unhide HN2).2 (unhide HN2).1)
        rw [← unhide HM] at HPL
        go_wp2_with fail
        refine (unhide HPL).mono ?_
        rintro e w7 ⟨rfl, hb⟩
        have HB7 : Hid (Below B u w7) := (unhide HB6).trans hb
        clear hb
        go_wp2
        go_ret
        exact ⟨rfl, unhide HB7⟩
end Go.Proofs.Ytfdibmbffmgikaa
