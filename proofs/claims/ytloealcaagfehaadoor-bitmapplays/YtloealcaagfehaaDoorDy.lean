/- New and Put on the desk, with what they leave told. -/
import Derived.Test.YtloealcaagfehaaDoorDp
namespace Go.Proofs.YtloealcaagfehaaDoor
open Go.RowKit

section
variable {w : World} {B D : Nat} {σ : Nat → Option Sq}
/-- what a call leaves, told -/
def WentP (w w' : World) (B D : Nat) (Φ : (Nat → Option Sq) → Prop) : Prop := ∃ σ', Dk w' B D σ' ∧ Like σ' ∧ Below B w w' ∧ Φ σ'
theorem WentP.made {w1 : World} {k : Nat} (h : Dk w B D σ) (he : Like σ) (hb : Below w.heap.size w w1) (hk : k < 3) (t0 : Sq) (hτ : ∀ t, some t0 = some t → t.Ok w1 ∧ (∀ x, t.has x → w.heap.size ≤ x) ∧ t.T = t.S) :
    WentP w ((w1.setCell ⟨D, k, none⟩ (ownV (some t0))).setCell ⟨D, 3 + k, none⟩ (refV (some t0))) B D fun σ' => σ' k = some t0 := by
  refine ⟨updS σ k (some t0), h.make hb hk (some t0) (fun t ht => ⟨(hτ t ht).1, (hτ t ht).2.1⟩), fun i s hs => ?_, belowCell (belowCell (hb.mono (Nat.le_trans h.ge (Nat.le_of_lt h.dlt))) h.ge _) h.ge _, updS_same _ _ _⟩
  by_cases e : i = k
  · subst e; rw [updS_same] at hs; exact (hτ s hs).2.2
  · rw [updS_other _ _ _ _ e] at hs; exact he i s hs
theorem WentP.mk' {w0 w1 w2 : World} {k : Nat} {σ1 σ2 : Nat → Option Sq} {gS hT : Sq → Nat} (h : Dk w B D σ) (he : Like σ) (hb : Below w.heap.size w w0) (hd : Dk w0 B D σ) (h1 : Lt w0 w1 B D σ σ1 k gS (fun s => s.T)) (h2 : Lt w1 w2 B D σ1 σ2 k (fun s => s.S) hT)
    (hg : ∀ s t, σ k = some s → σ1 k = some t → t.n = s.n → t.T = s.S → hT t = gS s) : WentP w w2 B D fun σ' => ∀ s, σ k = some s → ∃ t, σ' k = some t ∧ t.n = s.n ∧ t.S = gS s :=
  ⟨σ2, h2.d, like_again he h1 h2 hg, ((hb.mono (Nat.le_trans h.ge (Nat.le_of_lt h.dlt))).trans (h1.below hd)).trans (h2.below h1.d), fun s hs => by
    obtain ⟨t1, e1, _, _, e2, e3, _⟩ := h1.r.so s hs
    obtain ⟨t2, e4, _, _, e5, e6, _⟩ := h2.r.so t1 e1
    exact ⟨t2, e4, e5.trans e2, e6.trans e3⟩⟩
set_option maxRecDepth 100000 in
set_option maxHeartbeats 4000000 in
theorem makes_newP (h : Dk w B D σ) (he : Like σ) (on wi  j : Int) (s : ByteArray) (n : Nat) (hn : n ≤ 65536) : Calls Tryd.prog 16 #[.pointer (some ⟨D, 0, none⟩), .agg #[.int .i64 1, .int .i64 on, .int .i64 wi, .int .i64 (n : Int), .int .i64 j, .string s]] w fun e w' => e = .returned (.bool true) ∧ WentP w w' B D fun σ' => ∃ t, σ' (sm on) = some t ∧ t.n = n ∧ t.S = 0 := by
  have HA := hide (fun u => bNew n hn u)
  have HR := hide (fun u => rNew n hn u)
  clear hn
  have HS1 := hide (fun u => lSeat on u)
  have HS2 := hide (fun u => lSeat wi u)
  have ha := sm_lt on
  have hb := sm_lt wi
  generalize sm on = a at *
  generalize sm wi = b at *
  have hE := En.start h ha hb 1 on wi (n : Int) j s
  have hbel := (Below.refl w.heap.size w).alloc (Nat.le_refl _) (.cells #[.int .i64 1, .int .i64 on, .int .i64 wi, .int .i64 (n : Int), .int .i64 j, .string s] 32)
  have HH := hide (And.intro h he)
  have HD := hide (h.keep hbel)
  have HB := hide hbel
  have ha3 : ((a : Nat) : Int) < 3 := by omega
  have hb3 : ((b : Nat) : Int) < 3 := by omega
  have HAB := hide (And.intro ha hb)
  have hX : w.heap.size < (w.alloc (.cells #[.int .i64 1, .int .i64 on, .int .i64 wi, .int .i64 (n : Int), .int .i64 j, .string s] 32)).heap.size := World.block_lt_of_cell? _ _ hE.x0
  have HX := hide hX
  clear h he hbel hX
  go_enter Tryd.func16, Tryd.ntmps16
  go_wp2_with fail
  generalize w.alloc (.cells #[.int .i64 1, .int .i64 on, .int .i64 wi, .int .i64 (n : Int), .int .i64 j, .string s] 32) = w0 at *
  refine (unhide HS1 _).mono ?_
  rintro e wz ⟨rfl, hw⟩
  obtain rfl := hw.symm
  clear hw
  have c1 := hE.c1
  have c2 := hE.c2
  have c3 := hE.c3
  have c4 := hE.c4
  have x0 := hE.x0
  have x1 := hE.x1
  have x2 := hE.x2
  have x3 := hE.x3
  have x4 := hE.x4
  have x5 := hE.x5
  have HE := hide hE
  clear hE
  go_wp2_with fail
  refine (unhide HA _).mono ?_
  rintro e w5 ⟨pa, qa, rfl, hpa, hqa, hma, hb5⟩
  have hwb := (unhide HB).size
  have HM := hide (And.intro hwb (And.intro hpa (And.intro hqa hma)))
  clear hwb hpa hqa hma
  have hE := (unhide HE).below hb5 (unhide HD).dlt (unhide HX)
  clear c1 c2 c3 c4 x0 x1 x2 x3 x4 x5
  have HD5 := hide ((unhide HD).keep hb5)
  have HB5 := hide ((unhide HB).trans (hb5.mono (unhide HB).size))
  have HX5 : Hid (w.heap.size < w5.heap.size) := Nat.lt_of_lt_of_le (unhide HX) hb5.size
  clear HE HD HB HX
  have HD := hide (unhide HD5)
  have HB := hide (unhide HB5)
  have HX := hide (unhide HX5)
  clear HD5 HB5 HX5
  have c1 := hE.c1
  have c2 := hE.c2
  have c3 := hE.c3
  have c4 := hE.c4
  have x0 := hE.x0
  have x1 := hE.x1
  have x2 := hE.x2
  have x3 := hE.x3
  have x4 := hE.x4
  have x5 := hE.x5
  have HE := hide hE
  clear hE
  clear hb5
  go_wp2_with fail
  refine (unhide HR _).mono ?_
  rintro e w6 ⟨pb, qb, rfl, hpb, hqb, hmb0, hb6⟩
  have hlb := hmb0.qlt
  have hmb : Rn w6 pb qb n 0 := .inl hmb0
  clear hmb0
  have HR9 := hide (Sq.made (unhide HM).1 (unhide HM).2.1 (unhide HM).2.2.1 (unhide HM).2.2.2 hpb hqb hb6 hmb hlb)
  have hE := (unhide HE).below hb6 (unhide HD).dlt (unhide HX)
  clear c1 c2 c3 c4 x0 x1 x2 x3 x4 x5
  have HD6 := hide ((unhide HD).keep hb6)
  have HB6 := hide ((unhide HB).trans (hb6.mono (unhide HB).size))
  have HX6 : Hid (w.heap.size < w6.heap.size) := Nat.lt_of_lt_of_le (unhide HX) hb6.size
  clear HE HD HB HX
  have HD := hide (unhide HD6)
  have HB := hide (unhide HB6)
  have HX := hide (unhide HX6)
  clear HD6 HB6 HX6
  have c1 := hE.c1
  have c2 := hE.c2
  have c3 := hE.c3
  have c4 := hE.c4
  have x0 := hE.x0
  have x1 := hE.x1
  have x2 := hE.x2
  have x3 := hE.x3
  have x4 := hE.x4
  have x5 := hE.x5
  have HE := hide hE
  clear hE
  clear hb6 hpb hqb hmb hlb
  have q1 : w6.frozen? ⟨D, a, none⟩ = false := (unhide HD).fz a
  have q2 : (w6.setCell ⟨D, a, none⟩ (.pointer (some ⟨pa, 0, none⟩))).frozen? ⟨D, 3 + a, none⟩ = false := by have := heapCell_same (unhide HD).d a (.pointer (some ⟨pa, 0, none⟩)); simp only [World.frozen?, this]; rfl
  have q3 : (w6.setCell ⟨D, a, none⟩ (.pointer (some ⟨pa, 0, none⟩))).cell? ⟨D, 3 + a, none⟩ = some (refV (σ a)) := by rw [← c2]; exact cell_setCell_ne (unhide HD).d _ (by omega)
  go_wp2
  go_ret
  obtain ⟨σ', r1, r2, r3, r4⟩ := WentP.made (unhide HH).1 (unhide HH).2 (unhide HB) (unhide HAB).1 (Sq.mk pa qa pb qb n 0 0) (unhide HR9)
  exact ⟨rfl, σ', r1, r2, r3, _, r4, rfl, rfl⟩
set_option maxRecDepth 100000 in
set_option maxHeartbeats 2000000 in
theorem turns_putP (h : Dk w B D σ) (he : Like σ) (on wi i j : Int) (s : ByteArray) : Calls Tryd.prog 17 #[.pointer (some ⟨D, 0, none⟩), .agg #[.int .i64 3, .int .i64 on, .int .i64 wi, .int .i64 i, .int .i64 j, .string s]] w fun e w' => e = .returned (.bool true) ∧ WentP w w' B D fun σ' => ∀ s, σ (sm on) = some s → ∃ t, σ' (sm on) = some t ∧ t.n = s.n ∧ t.S = Sp.putS s.n s.S i := by
  have HS1 := hide (fun u => lSeat on u)
  have HS2 := hide (fun u => lSeat wi u)
  have ha := sm_lt on
  have hb := sm_lt wi
  generalize sm on = a at *
  generalize sm wi = b at *
  have hE := En.start h ha hb 3 on wi i j s
  have hbel := (Below.refl w.heap.size w).alloc (Nat.le_refl _) (.cells #[.int .i64 3, .int .i64 on, .int .i64 wi, .int .i64 i, .int .i64 j, .string s] 32)
  have HH := hide (And.intro h he)
  have HD := hide (h.keep hbel)
  have HB := hide hbel
  have ha3 : ((a : Nat) : Int) < 3 := by omega
  have hb3 : ((b : Nat) : Int) < 3 := by omega
  have HAB := hide (And.intro ha hb)
  have hX : w.heap.size < (w.alloc (.cells #[.int .i64 3, .int .i64 on, .int .i64 wi, .int .i64 i, .int .i64 j, .string s] 32)).heap.size := World.block_lt_of_cell? _ _ hE.x0
  have HX := hide hX
  clear h he hbel hX
  go_enter Tryd.func17, Tryd.ntmps17
  go_wp2
  generalize w.alloc (.cells #[.int .i64 3, .int .i64 on, .int .i64 wi, .int .i64 i, .int .i64 j, .string s] 32) = w0 at *
  have HE := hide hE
  have c1 := hE.c1
  have c2 := hE.c2
  have c3 := hE.c3
  have c4 := hE.c4
  have x0 := hE.x0
  have x1 := hE.x1
  have x2 := hE.x2
  have x3 := hE.x3
  have x4 := hE.x4
  clear hE
  go_quiet ((go_at_call 41; exact Calls.quiet_of_same (unhide HS1 _)))
  clear c1 c2 c3 c4 x0 x1 x2 x3 x4
  have hE := (unhide HE).drewN nq
  have HD2 := hide ((unhide HD).drewN nq)
  have HB2 := hide (belowDrewN (unhide HB) nq)
  have HX2 : Hid (w.heap.size < (w0.drewN nq).heap.size) := unhide HX
  clear HE HD HB HX
  generalize w0.drewN nq = w1 at *
  have HD := hide (unhide HD2)
  have HB := hide (unhide HB2)
  have HX := hide (unhide HX2)
  clear HD2 HB2 HX2
  have HE0 := hide hE
  clear hE
  go_wp2
  have hE := unhide HE0
  clear HE0
  have HE := hide hE
  have c1 := hE.c1
  have c2 := hE.c2
  have c3 := hE.c3
  have c4 := hE.c4
  have x0 := hE.x0
  have x1 := hE.x1
  have x2 := hE.x2
  have x3 := hE.x3
  have x4 := hE.x4
  clear hE
  go_quiet ((go_at_call 41; exact Calls.quiet_of_same (unhide HS1 _)))
  clear c1 c2 c3 c4 x0 x1 x2 x3 x4
  have hE := (unhide HE).drewN nq
  have HD2 := hide ((unhide HD).drewN nq)
  have HB2 := hide (belowDrewN (unhide HB) nq)
  have HX2 : Hid (w.heap.size < (w1.drewN nq).heap.size) := unhide HX
  clear HE HD HB HX
  generalize w1.drewN nq = w2 at *
  have HD := hide (unhide HD2)
  have HB := hide (unhide HB2)
  have HX := hide (unhide HX2)
  clear HD2 HB2 HX2
  have HE0 := hide hE
  clear hE
  go_wp2
  have hE := unhide HE0
  clear HE0
  have HE := hide hE
  have c1 := hE.c1
  have c2 := hE.c2
  have c3 := hE.c3
  have c4 := hE.c4
  have x0 := hE.x0
  have x1 := hE.x1
  have x2 := hE.x2
  have x3 := hE.x3
  have x4 := hE.x4
  clear hE
  go_quiet ((go_at_call 41; exact Calls.quiet_of_same (unhide HS2 _)))
  clear c1 c2 c3 c4 x0 x1 x2 x3 x4
  have hE := (unhide HE).drewN nq
  have HD2 := hide ((unhide HD).drewN nq)
  have HB2 := hide (belowDrewN (unhide HB) nq)
  have HX2 : Hid (w.heap.size < (w2.drewN nq).heap.size) := unhide HX
  clear HE HD HB HX
  generalize w2.drewN nq = w3 at *
  have HD := hide (unhide HD2)
  have HB := hide (unhide HB2)
  have HX := hide (unhide HX2)
  clear HD2 HB2 HX2
  have HE0 := hide hE
  clear hE
  go_wp2
  have hE := unhide HE0
  clear HE0
  have HE := hide hE
  have c1 := hE.c1
  have c2 := hE.c2
  have c3 := hE.c3
  have c4 := hE.c4
  have x0 := hE.x0
  have x1 := hE.x1
  have x2 := hE.x2
  have x3 := hE.x3
  have x4 := hE.x4
  clear hE
  go_quiet ((go_at_call 41; exact Calls.quiet_of_same (unhide HS2 _)))
  clear c1 c2 c3 c4 x0 x1 x2 x3 x4
  have hE := (unhide HE).drewN nq
  have HD2 := hide ((unhide HD).drewN nq)
  have HB2 := hide (belowDrewN (unhide HB) nq)
  have HX2 : Hid (w.heap.size < (w3.drewN nq).heap.size) := unhide HX
  clear HE HD HB HX
  generalize w3.drewN nq = w4 at *
  have HD := hide (unhide HD2)
  have HB := hide (unhide HB2)
  have HX := hide (unhide HX2)
  clear HD2 HB2 HX2
  have c1 := hE.c1
  have c2 := hE.c2
  have c3 := hE.c3
  have c4 := hE.c4
  have x0 := hE.x0
  have x1 := hE.x1
  have x2 := hE.x2
  have x3 := hE.x3
  have x4 := hE.x4
  clear hE
  have HA := hide (fun u (hd : Dk u B D σ) => pPut hd (unhide HAB).1 i)
  have HR : Hid (∀ u σ1 (gS gT : Sq → Nat), Rl σ σ1 a gS gT → Dk u B D σ1 → Calls Tryd.prog 44 #[refV (σ a), .int .i64 i] u fun e w' => e = .returned (.int .i64 (oneR i (σ a))) ∧ Left u w' B D σ1 a (fun s => s.S) (fun s => Sp.putS s.n s.T i)) := fun u σ1 gS gT r hd => by
    rw [← r.refV a, ← r.one i]
    exact dPut hd (unhide HAB).1 i
  have HXn := hide ((unhide HH).1.off (unhide HAB).1)
  have HDd := hide (unhide HD).drew
  have HBd : Hid (Below w.heap.size w w4.drew) := ⟨(unhide HB).os, (unhide HB).tape, (unhide HB).output, (unhide HB).size, (unhide HB).block⟩
  clear c1 c2 c3 c4
  go_wp2
  go_region_held3 (fun u => u.cell? ⟨w.heap.size, 3, none⟩ = some (.int .i64 i)) (first | (go_keep; done) | exact y3 | exact z3) (first | (go_at_call 24; refine (unhide HA _ (unhide HDd)).mono ?_; rintro e w5 ⟨rfl, σ1, hl1⟩; have HL1 := hide hl1; have HOf := hide (hl1.off (unhide HX) (unhide HXn)); have z3 := ((unhide HOf).2.1 3).trans x3; clear hl1) | (go_at_call 44; refine (unhide HR _ σ1 _ _ (unhide HL1).r (unhide HL1).d).mono ?_; rintro e w6 ⟨rfl, σ2, hl2⟩; have HL2 := hide hl2; have HOg := hide (hl2.off (unhide HOf).2.2 (unhide HOf).1); have y3 := ((unhide HOg).2.1 3).trans z3; clear hl2))
  go_wp2
  go_ret
  exact ⟨rfl, WentP.mk' (unhide HH).1 (unhide HH).2 (unhide HBd) (unhide HDd) (unhide HL1) (unhide HL2) (fun s t _ _ h1 h2 => by simp only [h1, h2])⟩
end
end Go.Proofs.YtloealcaagfehaaDoor
