/- The walk of BitmapPlays. -/
import Derived.Test.YtloealcaagfehaaDoorDy
namespace Go.Proofs.YtloealcaagfehaaDoor
open Go.RowKit

theorem Dk.start (w : World) : Dk (w.alloc (.cells #[.pointer none, .pointer none, .pointer none, .pointer none, .pointer none, .pointer none] 29)) w.heap.size w.heap.size (fun _ => none) :=
  ⟨heap_alloc_new w _, Nat.le_refl _, fun _ _ s h => (by cases h), fun _ _ _ _ _ s _ h => (by cases h)⟩
/-- what holds between the steps -/
def Desk (w wr : World) : Prop := ∃ σ, Dk wr w.heap.size w.heap.size σ ∧ Like σ ∧ Below w.heap.size w wr
theorem Desk.went {w wr w' : World} (h : Desk w wr) (h2 : Went wr w' w.heap.size w.heap.size) : Desk w w' := by
  obtain ⟨_, _, _, hb⟩ := h
  obtain ⟨σ', a, b, c⟩ := h2
  exact ⟨σ', a, b, hb.trans c⟩
set_option maxRecDepth 100000 in
set_option maxHeartbeats 4000000 in
theorem plays_walk (l : List Stq) (ao : Option Addr) (cap : Nat) (w : World) (hl : l.length ≤ 9223372036854775807) (hst : Stqs w ao l) (hTb : Tab w) :
    Calls Tryd.prog 3 #[.slice ao l.length cap] w fun e w' => e = .returned (.bool true) ∧ Below w.heap.size w w' := by
  have h0 : 0 < w.heap.size := World.block_lt_of_cell? _ _ (hTb 0 (by decide))
  obtain ⟨L, hL⟩ : ∃ L, L = l.length := ⟨_, rfl⟩
  have HL := hide hL
  rw [← hL] at hl ⊢
  have HT := hide hTb
  have HST := hide hst
  have HDS : Hid (Desk w (w.alloc (.cells #[.pointer none, .pointer none, .pointer none, .pointer none, .pointer none, .pointer none] 29))) := ⟨_, Dk.start w, fun _ _ h => (by cases h), (Below.refl w.heap.size w).alloc (Nat.le_refl _) _⟩
  clear hL hst hTb
  go_enter Tryd.func3, Tryd.ntmps3
  go_wp2
  go_loopw [4] (fun i wr => ∃ k : Nat, k ≤ L ∧ i = .int .i64 k ∧ Hid (Desk w wr)) (fun i _ => L - (intOf i).toNat)
  case atStart => exact ⟨0, Nat.zero_le _, rfl, HDS⟩
  case round =>
    obtain ⟨k, hk, rfl, HD⟩ := hrel
    clear HDS
    by_cases hlt : k < L
    · have hki : (k : Int) < (L : Int) := by omega
      have hkl : k < l.length := by rw [← unhide HL]; exact hlt
      obtain ⟨g, o, rfl, hg, hat⟩ := (unhide HST).2 (by omega)
      have hok := (unhide HST).1 _ (List.getElem_mem hkl)
      have hx : l[k].At wr g (o + k * 6) := by
        obtain ⟨_, _, _, hb⟩ := unhide HD
        exact fun t ht => (hb.cell (p := ⟨g, o + k * 6 + t, none⟩) hg).trans (hat k hkl t ht)
      have HP : Hid (Calls Tryd.prog 8 #[.pointer (some ⟨w.heap.size, 0, none⟩), .agg l[k].cs] wr fun e w' => e = .returned (.bool true) ∧ Desk w w') := by
        have hdd := unhide HD
        obtain ⟨σ, hd, he, hb⟩ := unhide HD
        refine (plays_any hd he ((unhide HT).below hb h0) l[k] hok).mono ?_
        rintro e w' ⟨rfl, hw⟩
        exact ⟨rfl, hdd.went hw⟩
      generalize l[k] = x at *
      obtain ⟨kind, on, wi, i, j, s⟩ := x
      have x0 : wr.cell? ⟨g, o + k * 6, none⟩ = some (.int .i64 kind) := hx 0 (by decide)
      have x1 : wr.cell? ⟨g, o + k * 6 + 1, none⟩ = some (.int .i64 on) := hx 1 (by decide)
      have x2 : wr.cell? ⟨g, o + k * 6 + 2, none⟩ = some (.int .i64 wi) := hx 2 (by decide)
      have x3 : wr.cell? ⟨g, o + k * 6 + 3, none⟩ = some (.int .i64 i) := hx 3 (by decide)
      have x4 : wr.cell? ⟨g, o + k * 6 + 4, none⟩ = some (.int .i64 j) := hx 4 (by decide)
      have x5 : wr.cell? ⟨g, o + k * 6 + 5, none⟩ = some (.string s) := hx 5 (by decide)
      clear hx hat hok hkl HST
      go_wp2_with fail
      refine (show Calls Tryd.prog 8 #[.pointer (some ⟨w.heap.size, 0, none⟩), .agg #[.int .i64 kind, .int .i64 on, .int .i64 wi, .int .i64 i, .int .i64 j, .string s]] wr _ from unhide HP).mono ?_
      rintro e w1 ⟨rfl, hw⟩
      have HN := hide hw
      clear hw HP x0 x1 x2 x3 x4 x5
      go_wp2
      go_roundw
      case rel => exact ⟨k + 1, by omega, by go_num, HN⟩
      case measure => simp [intOf]; omega
    · obtain rfl : k = L := by omega
      clear hlt
      go_wp2
      go_loopw [5] (fun i wr => ∃ k : Nat, k ≤ 3 ∧ i = .int .i64 k ∧ Hid (Desk w wr)) (fun i _ => 3 - (intOf i).toNat)
      case atStart => exact ⟨0, Nat.zero_le _, rfl, HD⟩
      case round =>
        clear HD
        obtain ⟨m, hm, rfl, HD⟩ := hrel
        by_cases hm3 : m < 3
        · have hmi : ((m : Nat) : Int) < 3 := by omega
          obtain ⟨σ, hd, he, hb⟩ := unhide HD
          have c1 := hd.own m hm3
          have c2 := hd.ref m hm3
          have HK4 := hide hd.drew
          have HB4 : Hid (Below w.heap.size w wr.drew) := ⟨hb.os, hb.tape, hb.output, hb.size, hb.block⟩
          have HE := hide he
          have hEl := elsR_len (σ m) (fun s hs => (hd.ok m hm3 s hs).1.a.le)
          have HA1 := hide (fun u (hd : Dk u w.heap.size w.heap.size σ) => qTold hd hm3)
          have HA2 := hide (fun u (hd : Dk u w.heap.size w.heap.size σ) => rqTold hd he hm3)
          have HA3 := hide (fun u (hd : Dk u w.heap.size w.heap.size σ) => qLen hd hm3)
          have HA4 := hide (fun u (hd : Dk u w.heap.size w.heap.size σ) => rqLen hd he hm3)
          have HA5 := hide (fun u (hd : Dk u w.heap.size w.heap.size σ) (hT : Tab u) => qGone hd hT hm3)
          have HA6 := hide (fun u (hd : Dk u w.heap.size w.heap.size σ) => rqEach hd he hm3)
          generalize toldR (σ m) = ts at *
          generalize lenR (σ m) = ln at *
          generalize elsR (σ m) = E at *
          obtain ⟨le, hle⟩ : ∃ le, le = E.length := ⟨_, rfl⟩
          rw [← hle] at HA5 HA6
          have HLE := hide (And.intro hle hEl)
          clear hle hEl hd he hb HD
          go_wp2
          go_region_held3 (fun u => u.cell? ⟨w.heap.size, m, none⟩ = some (ownV (σ m)) ∧ u.cell? ⟨w.heap.size, 3 + m, none⟩ = some (refV (σ m))) (first | (go_keep; done) | exact ⟨(unhide HK9).own m hm3, (unhide HK9).ref m hm3⟩ | exact ⟨(unhide HK8).own m hm3, (unhide HK8).ref m hm3⟩ | exact ⟨(unhide HK7).own m hm3, (unhide HK7).ref m hm3⟩ | exact ⟨(unhide HK6).own m hm3, (unhide HK6).ref m hm3⟩ | exact ⟨(unhide HK5).own m hm3, (unhide HK5).ref m hm3⟩) (first
            | (go_at_call 9; refine (unhide HA1 _ (unhide HK4)).mono ?_; rintro e w5 ⟨rfl, hb5⟩; have HK5 := hide ((unhide HK4).keep hb5); have HB5 := hide ((unhide HB4).trans (hb5.mono (unhide HB4).size)); clear hb5)
            | (go_at_call 10; refine (unhide HA2 _ (unhide HK5)).mono ?_; rintro e w6 ⟨rfl, hb6⟩; have HK6 := hide ((unhide HK5).keep hb6); have HB6 := hide ((unhide HB5).trans (hb6.mono (unhide HB5).size)); clear hb6)
            | (go_at_call 11; refine (unhide HA3 _ (unhide HK6)).mono ?_; rintro e wz ⟨rfl, rfl⟩)
            | (go_at_call 12; refine (unhide HA4 _ (unhide HK6)).mono ?_; rintro e wz ⟨rfl, rfl⟩)
            | (go_at_call 14; refine (unhide HA5 _ (unhide HK6) ((unhide HT).below (unhide HB6) h0)).mono ?_; rintro e w7 ⟨⟨b1, cb1, rfl, hl1⟩, hb7⟩; have HK7 := hide ((unhide HK6).keep hb7); have HB7 := hide ((unhide HB6).trans (hb7.mono (unhide HB6).size)); have HL1 := hide hl1; clear hb7 hl1)
            | (go_at_call 15; refine (unhide HA6 _ (unhide HK7)).mono ?_; rintro e w8 ⟨⟨b2, cb2, rfl, hl2⟩, hb8⟩; have HK8 := hide ((unhide HK7).keep hb8); have HB8 := hide ((unhide HB7).trans (hb8.mono (unhide HB7).size)); have HSm := hide (lSameI E E b1 b2 cb1 cb2 w8 (by have := (unhide HLE).2; omega) ((unhide HL1).keep hb8 (Nat.le_refl _)) hl2); rw [decide_eq_true rfl, ← (unhide HLE).1] at HSm; clear hb8 hl2)
            | (go_at_call 13; refine (unhide HSm).mono ?_; rintro e w9 ⟨rfl, c, rfl⟩; have HK9 := hide ((unhide HK8).drewN c); have HB9 := hide (belowDrewN (unhide HB8) c)))
          go_wp2
          go_roundw
          case rel => exact ⟨m + 1, by omega, by go_num, hide ⟨σ, unhide HK9, unhide HE, unhide HB9⟩⟩
          case measure => simp [intOf]; omega
        · obtain rfl : m = 3 := by omega
          obtain ⟨σ, hd, he, hb⟩ := unhide HD
          have HM : Hid (Calls Tryd.prog 16 #[.pointer (some ⟨w.heap.size, 0, none⟩), .agg #[.int .i64 1, .int .i64 0, .int .i64 0, .int .i64 9, .int .i64 0, .string .empty]] wr fun e w' => e = .returned (.bool true) ∧ WentP wr w' w.heap.size w.heap.size fun σ' => ∃ t, σ' 0 = some t ∧ t.n = 9 ∧ t.S = 0) := makes_newP hd he 0 0 0 .empty 9 (by decide)
          have HB := hide hb
          clear hd he hb HD
          go_wp2_with fail
          refine (unhide HM).mono ?_
          rintro e w5 ⟨rfl, σ1, d1, l1, b1, t1, e1, n1, s1⟩
          have HP : Hid (Calls Tryd.prog 17 #[.pointer (some ⟨w.heap.size, 0, none⟩), .agg #[.int .i64 3, .int .i64 0, .int .i64 0, .int .i64 8, .int .i64 0, .string .empty]] w5 fun e w' => e = .returned (.bool true) ∧ WentP w5 w' w.heap.size w.heap.size fun σ' => ∀ s, σ1 0 = some s → ∃ t, σ' 0 = some t ∧ t.n = s.n ∧ t.S = Sp.putS s.n s.S 8) := turns_putP d1 l1 0 0 8 0 .empty
          have HB1 := hide b1
          have HE1 := hide (And.intro e1 (And.intro n1 s1))
          clear d1 l1 b1 e1 n1 s1 HM
          go_wp2_with fail
          refine (unhide HP).mono ?_
          rintro e w6 ⟨rfl, σ2, d2, l2, b2, r2⟩
          obtain ⟨t2, e2, n2, s2⟩ := r2 t1 (unhide HE1).1
          have hto : toldR (σ2 0) = ⟨#[0, 1]⟩ := by
            rw [e2]
            show (⟨(Bit.told t2.S t2.n).toArray⟩ : ByteArray) = _
            rw [s2, n2, (unhide HE1).2.1, (unhide HE1).2.2]
            decide
          have c := d2.own 0 (by decide)
          have HTo := hide (qTold d2 (k := 0) (by decide))
          rw [hto] at HTo
          have HB2 := hide b2
          clear d2 l2 b2 r2 e2 n2 s2 hto HP
          go_wp2_with fail
          refine (unhide HTo).mono ?_
          rintro e w7 ⟨rfl, b3⟩
          have HB3 := hide (((unhide HB).trans (unhide HB1)).trans (unhide HB2))
          have HB4 := hide ((unhide HB3).trans (b3.mono (unhide HB3).size))
          clear b3
          go_wp2
          go_ret
          exact ⟨rfl, unhide HB4⟩
end Go.Proofs.YtloealcaagfehaaDoor
