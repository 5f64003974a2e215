/- turns: a seat's sets are changed, on both sides alike. -/
import Derived.Test.YtloealcaagfehaaDoorDs
import Derived.Test.YtloealcaagfehaaDoorDo
namespace Go.Proofs.YtloealcaagfehaaDoor
open Go.RowKit

section
variable {w : World} {B D : Nat} {σ : Nat → Option Sq}
/-- what a call on the desk leaves -/
def Went (w w' : World) (B D : Nat) : Prop := ∃ σ', Dk w' B D σ' ∧ Like σ' ∧ Below B w w'
theorem cellOf {u : World} {g : Nat} {cs : Array Value} {t : TypeId} {fr : Nat × Nat} (h : u.heap[g]? = some (.cells cs t fr)) (k : Nat) : u.cell? ⟨g, k, none⟩ = cs[k]? := by simp [World.cell?, h]
/-- what the walk reads: the desk's places, the step -/
structure En (u : World) (D X a b : Nat) (σ : Nat → Option Sq) (kind on wi i j : Int) (s : ByteArray) : Prop where
  c1 : u.cell? ⟨D, a, none⟩ = some (ownV (σ a))
  c2 : u.cell? ⟨D, 3 + a, none⟩ = some (refV (σ a))
  c3 : u.cell? ⟨D, b, none⟩ = some (ownV (σ b))
  c4 : u.cell? ⟨D, 3 + b, none⟩ = some (refV (σ b))
  x0 : u.cell? ⟨X, 0, none⟩ = some (.int .i64 kind)
  x1 : u.cell? ⟨X, 1, none⟩ = some (.int .i64 on)
  x2 : u.cell? ⟨X, 2, none⟩ = some (.int .i64 wi)
  x3 : u.cell? ⟨X, 3, none⟩ = some (.int .i64 i)
  x4 : u.cell? ⟨X, 4, none⟩ = some (.int .i64 j)
  x5 : u.cell? ⟨X, 5, none⟩ = some (.string s)
theorem En.drewN {u : World} {X a b : Nat} {kind on wi i j : Int} {s : ByteArray} (h : En u D X a b σ kind on wi i j s) (c : Nat) : En (u.drewN c) D X a b σ kind on wi i j s := ⟨h.c1, h.c2, h.c3, h.c4, h.x0, h.x1, h.x2, h.x3, h.x4, h.x5⟩
theorem En.start (h : Dk w B D σ) {a b : Nat} (ha : a < 3) (hb : b < 3) (kind on wi i j : Int) (s : ByteArray) :
    En (w.alloc (.cells #[.int .i64 kind, .int .i64 on, .int .i64 wi, .int .i64 i, .int .i64 j, .string s] 32)) D w.heap.size a b σ kind on wi i j s := by
  have hbel := (Below.refl w.heap.size w).alloc (Nat.le_refl _) (.cells #[.int .i64 kind, .int .i64 on, .int .i64 wi, .int .i64 i, .int .i64 j, .string s] 32)
  have hd := h.keep hbel
  have hn := heap_alloc_new w (.cells #[.int .i64 kind, .int .i64 on, .int .i64 wi, .int .i64 i, .int .i64 j, .string s] 32)
  exact ⟨hd.own a ha, hd.ref a ha, hd.own b hb, hd.ref b hb, cellOf hn 0, cellOf hn 1, cellOf hn 2, cellOf hn 3, cellOf hn 4, cellOf hn 5⟩
/-- both sides have done it: one is like the other again -/
theorem like_again {w1 w2 : World} {k : Nat} {σ1 σ2 : Nat → Option Sq} {gS hT : Sq → Nat} (he : Like σ) (h1 : Lt w w1 B D σ σ1 k gS (fun s => s.T)) (h2 : Lt w1 w2 B D σ1 σ2 k (fun s => s.S) hT)
    (hg : ∀ s t, σ k = some s → σ1 k = some t → t.n = s.n → t.T = s.S → hT t = gS s) : Like σ2 := by
  intro i t ht
  by_cases e : i = k
  · subst e
    cases hs : σ i with
    | none => rw [h2.r.no (h1.r.no hs)] at ht; cases ht
    | some s =>
      obtain ⟨t1, e1, _, _, e2, e3, e4⟩ := h1.r.so s hs
      obtain ⟨t2, e5, _, _, _, e6, e7⟩ := h2.r.so t1 e1
      rw [e5] at ht
      injection ht with ht
      subst ht
      rw [e6, e7, e3]
      exact hg s t1 hs e1 e2 (e4.trans (he i s hs))
  · rw [h2.r.ot i e, h1.r.ot i e] at ht
    exact he i t ht
theorem Went.mk {w0 w1 w2 : World} {k : Nat} {σ1 σ2 : Nat → Option Sq} {gS hT : Sq → Nat} (h : Dk w B D σ) (he : Like σ) (hb : Below w.heap.size w w0) (hd : Dk w0 B D σ) (h1 : Lt w0 w1 B D σ σ1 k gS (fun s => s.T)) (h2 : Lt w1 w2 B D σ1 σ2 k (fun s => s.S) hT)
    (hg : ∀ s t, σ k = some s → σ1 k = some t → t.n = s.n → t.T = s.S → hT t = gS s) : Went w w2 B D :=
  ⟨σ2, h2.d, like_again he h1 h2 hg, ((hb.mono (Nat.le_trans h.ge (Nat.le_of_lt h.dlt))).trans (h1.below hd)).trans (h2.below h1.d)⟩
theorem two_like {gS : Sq → Nat} {σ1 : Nat → Option Sq} {k j : Nat} (f : Nat → Nat → Nat) (he : Like σ) (r : Rl σ σ1 k gS (fun s => s.T)) : ∀ s t, σ k = some s → σ1 k = some t → t.n = s.n → t.T = s.S → twoG f (σ1 j) Sq.T t = twoG f (σ j) Sq.S s := by
  intro s t hs ht hn hT
  by_cases e : j = k
  · subst e
    rw [hs, ht]
    simp only [twoG, if_pos, hT]
  · rw [r.ot j e]
    cases hj : σ j with
    | none => exact hT
    | some x => simp only [twoG, hn, hT, he j x hj]
set_option maxRecDepth 100000 in
set_option maxHeartbeats 2000000 in
theorem turns_put (h : Dk w B D σ) (he : Like σ) (on wi i j : Int) (s : ByteArray) : Calls Tryd.prog 17 #[.pointer (some ⟨D, 0, none⟩), .agg #[.int .i64 3, .int .i64 on, .int .i64 wi, .int .i64 i, .int .i64 j, .string s]] w fun e w' => e = .returned (.bool true) ∧ Went w w' B D := by
  have HS1 := hide (fun u => lSeat on u)
  have HS2 := hide (fun u => lSeat wi u)
  have ha := sm_lt on
  have hb := sm_lt wi
  generalize sm on = a at *
  generalize sm wi = b at *
  have hE := En.start h ha hb 3 on wi i j s
  have hbel := (Below.refl w.heap.size w).alloc (Nat.le_refl _) (.cells #[.int .i64 3, .int .i64 on, .int .i64 wi, .int .i64 i, .int .i64 j, .string s] 32)
  have HH := hide (And.intro h he)
  have HD := hide (h.keep hbel)
  have HB := hide hbel
  have ha3 : ((a : Nat) : Int) < 3 := by omega
  have hb3 : ((b : Nat) : Int) < 3 := by omega
  have HAB := hide (And.intro ha hb)
  have hX : w.heap.size < (w.alloc (.cells #[.int .i64 3, .int .i64 on, .int .i64 wi, .int .i64 i, .int .i64 j, .string s] 32)).heap.size := World.block_lt_of_cell? _ _ hE.x0
  have HX := hide hX
  clear h he hbel hX
  go_enter Tryd.func17, Tryd.ntmps17
  go_wp2
  generalize w.alloc (.cells #[.int .i64 3, .int .i64 on, .int .i64 wi, .int .i64 i, .int .i64 j, .string s] 32) = w0 at *
  have HE := hide hE
  have c1 := hE.c1
  have c2 := hE.c2
  have c3 := hE.c3
  have c4 := hE.c4
  have x0 := hE.x0
  have x1 := hE.x1
  have x2 := hE.x2
  have x3 := hE.x3
  have x4 := hE.x4
  clear hE
  go_quiet ((go_at_call 41; exact Calls.quiet_of_same (unhide HS1 _)))
  clear c1 c2 c3 c4 x0 x1 x2 x3 x4
  have hE := (unhide HE).drewN nq
  have HD2 := hide ((unhide HD).drewN nq)
  have HB2 := hide (belowDrewN (unhide HB) nq)
  have HX2 : Hid (w.heap.size < (w0.drewN nq).heap.size) := unhide HX
  clear HE HD HB HX
  generalize w0.drewN nq = w1 at *
  have HD := hide (unhide HD2)
  have HB := hide (unhide HB2)
  have HX := hide (unhide HX2)
  clear HD2 HB2 HX2
  have HE0 := hide hE
  clear hE
  go_wp2
  have hE := unhide HE0
  clear HE0
  have HE := hide hE
  have c1 := hE.c1
  have c2 := hE.c2
  have c3 := hE.c3
  have c4 := hE.c4
  have x0 := hE.x0
  have x1 := hE.x1
  have x2 := hE.x2
  have x3 := hE.x3
  have x4 := hE.x4
  clear hE
  go_quiet ((go_at_call 41; exact Calls.quiet_of_same (unhide HS1 _)))
  clear c1 c2 c3 c4 x0 x1 x2 x3 x4
  have hE := (unhide HE).drewN nq
  have HD2 := hide ((unhide HD).drewN nq)
  have HB2 := hide (belowDrewN (unhide HB) nq)
  have HX2 : Hid (w.heap.size < (w1.drewN nq).heap.size) := unhide HX
  clear HE HD HB HX
  generalize w1.drewN nq = w2 at *
  have HD := hide (unhide HD2)
  have HB := hide (unhide HB2)
  have HX := hide (unhide HX2)
  clear HD2 HB2 HX2
  have HE0 := hide hE
  clear hE
  go_wp2
  have hE := unhide HE0
  clear HE0
  have HE := hide hE
  have c1 := hE.c1
  have c2 := hE.c2
  have c3 := hE.c3
  have c4 := hE.c4
  have x0 := hE.x0
  have x1 := hE.x1
  have x2 := hE.x2
  have x3 := hE.x3
  have x4 := hE.x4
  clear hE
  go_quiet ((go_at_call 41; exact Calls.quiet_of_same (unhide HS2 _)))
  clear c1 c2 c3 c4 x0 x1 x2 x3 x4
  have hE := (unhide HE).drewN nq
  have HD2 := hide ((unhide HD).drewN nq)
  have HB2 := hide (belowDrewN (unhide HB) nq)
  have HX2 : Hid (w.heap.size < (w2.drewN nq).heap.size) := unhide HX
  clear HE HD HB HX
  generalize w2.drewN nq = w3 at *
  have HD := hide (unhide HD2)
  have HB := hide (unhide HB2)
  have HX := hide (unhide HX2)
  clear HD2 HB2 HX2
  have HE0 := hide hE
  clear hE
  go_wp2
  have hE := unhide HE0
  clear HE0
  have HE := hide hE
  have c1 := hE.c1
  have c2 := hE.c2
  have c3 := hE.c3
  have c4 := hE.c4
  have x0 := hE.x0
  have x1 := hE.x1
  have x2 := hE.x2
  have x3 := hE.x3
  have x4 := hE.x4
  clear hE
  go_quiet ((go_at_call 41; exact Calls.quiet_of_same (unhide HS2 _)))
  clear c1 c2 c3 c4 x0 x1 x2 x3 x4
  have hE := (unhide HE).drewN nq
  have HD2 := hide ((unhide HD).drewN nq)
  have HB2 := hide (belowDrewN (unhide HB) nq)
  have HX2 : Hid (w.heap.size < (w3.drewN nq).heap.size) := unhide HX
  clear HE HD HB HX
  generalize w3.drewN nq = w4 at *
  have HD := hide (unhide HD2)
  have HB := hide (unhide HB2)
  have HX := hide (unhide HX2)
  clear HD2 HB2 HX2
  have c1 := hE.c1
  have c2 := hE.c2
  have c3 := hE.c3
  have c4 := hE.c4
  have x0 := hE.x0
  have x1 := hE.x1
  have x2 := hE.x2
  have x3 := hE.x3
  have x4 := hE.x4
  clear hE
  have HA := hide (fun u (hd : Dk u B D σ) => pPut hd (unhide HAB).1 i)
  have HR : Hid (∀ u σ1 (gS gT : Sq → Nat), Rl σ σ1 a gS gT → Dk u B D σ1 → Calls Tryd.prog 44 #[refV (σ a), .int .i64 i] u fun e w' => e = .returned (.int .i64 (oneR i (σ a))) ∧ Left u w' B D σ1 a (fun s => s.S) (fun s => Sp.putS s.n s.T i)) := fun u σ1 gS gT r hd => by
    rw [← r.refV a, ← r.one i]
    exact dPut hd (unhide HAB).1 i
  have HXn := hide ((unhide HH).1.off (unhide HAB).1)
  have HDd := hide (unhide HD).drew
  have HBd : Hid (Below w.heap.size w w4.drew) := ⟨(unhide HB).os, (unhide HB).tape, (unhide HB).output, (unhide HB).size, (unhide HB).block⟩
  clear c1 c2 c3 c4
  go_wp2
  go_region_held3 (fun u => u.cell? ⟨w.heap.size, 3, none⟩ = some (.int .i64 i)) (first | (go_keep; done) | exact y3 | exact z3) (first | (go_at_call 24; refine (unhide HA _ (unhide HDd)).mono ?_; rintro e w5 ⟨rfl, σ1, hl1⟩; have HL1 := hide hl1; have HOf := hide (hl1.off (unhide HX) (unhide HXn)); have z3 := ((unhide HOf).2.1 3).trans x3; clear hl1) | (go_at_call 44; refine (unhide HR _ σ1 _ _ (unhide HL1).r (unhide HL1).d).mono ?_; rintro e w6 ⟨rfl, σ2, hl2⟩; have HL2 := hide hl2; have HOg := hide (hl2.off (unhide HOf).2.2 (unhide HOf).1); have y3 := ((unhide HOg).2.1 3).trans z3; clear hl2))
  go_wp2
  go_ret
  exact ⟨rfl, Went.mk (unhide HH).1 (unhide HH).2 (unhide HBd) (unhide HDd) (unhide HL1) (unhide HL2) (fun s t _ _ h1 h2 => by simp only [h1, h2])⟩
set_option maxRecDepth 100000 in
set_option maxHeartbeats 2000000 in
theorem turns_take (h : Dk w B D σ) (he : Like σ) (on wi i j : Int) (s : ByteArray) : Calls Tryd.prog 17 #[.pointer (some ⟨D, 0, none⟩), .agg #[.int .i64 4, .int .i64 on, .int .i64 wi, .int .i64 i, .int .i64 j, .string s]] w fun e w' => e = .returned (.bool true) ∧ Went w w' B D := by
  have HS1 := hide (fun u => lSeat on u)
  have HS2 := hide (fun u => lSeat wi u)
  have ha := sm_lt on
  have hb := sm_lt wi
  generalize sm on = a at *
  generalize sm wi = b at *
  have hE := En.start h ha hb 4 on wi i j s
  have hbel := (Below.refl w.heap.size w).alloc (Nat.le_refl _) (.cells #[.int .i64 4, .int .i64 on, .int .i64 wi, .int .i64 i, .int .i64 j, .string s] 32)
  have HH := hide (And.intro h he)
  have HD := hide (h.keep hbel)
  have HB := hide hbel
  have ha3 : ((a : Nat) : Int) < 3 := by omega
  have hb3 : ((b : Nat) : Int) < 3 := by omega
  have HAB := hide (And.intro ha hb)
  have hX : w.heap.size < (w.alloc (.cells #[.int .i64 4, .int .i64 on, .int .i64 wi, .int .i64 i, .int .i64 j, .string s] 32)).heap.size := World.block_lt_of_cell? _ _ hE.x0
  have HX := hide hX
  clear h he hbel hX
  go_enter Tryd.func17, Tryd.ntmps17
  go_wp2
  generalize w.alloc (.cells #[.int .i64 4, .int .i64 on, .int .i64 wi, .int .i64 i, .int .i64 j, .string s] 32) = w0 at *
  have HE := hide hE
  have c1 := hE.c1
  have c2 := hE.c2
  have c3 := hE.c3
  have c4 := hE.c4
  have x0 := hE.x0
  have x1 := hE.x1
  have x2 := hE.x2
  have x3 := hE.x3
  have x4 := hE.x4
  clear hE
  go_quiet ((go_at_call 41; exact Calls.quiet_of_same (unhide HS1 _)))
  clear c1 c2 c3 c4 x0 x1 x2 x3 x4
  have hE := (unhide HE).drewN nq
  have HD2 := hide ((unhide HD).drewN nq)
  have HB2 := hide (belowDrewN (unhide HB) nq)
  have HX2 : Hid (w.heap.size < (w0.drewN nq).heap.size) := unhide HX
  clear HE HD HB HX
  generalize w0.drewN nq = w1 at *
  have HD := hide (unhide HD2)
  have HB := hide (unhide HB2)
  have HX := hide (unhide HX2)
  clear HD2 HB2 HX2
  have HE0 := hide hE
  clear hE
  go_wp2
  have hE := unhide HE0
  clear HE0
  have HE := hide hE
  have c1 := hE.c1
  have c2 := hE.c2
  have c3 := hE.c3
  have c4 := hE.c4
  have x0 := hE.x0
  have x1 := hE.x1
  have x2 := hE.x2
  have x3 := hE.x3
  have x4 := hE.x4
  clear hE
  go_quiet ((go_at_call 41; exact Calls.quiet_of_same (unhide HS1 _)))
  clear c1 c2 c3 c4 x0 x1 x2 x3 x4
  have hE := (unhide HE).drewN nq
  have HD2 := hide ((unhide HD).drewN nq)
  have HB2 := hide (belowDrewN (unhide HB) nq)
  have HX2 : Hid (w.heap.size < (w1.drewN nq).heap.size) := unhide HX
  clear HE HD HB HX
  generalize w1.drewN nq = w2 at *
  have HD := hide (unhide HD2)
  have HB := hide (unhide HB2)
  have HX := hide (unhide HX2)
  clear HD2 HB2 HX2
  have HE0 := hide hE
  clear hE
  go_wp2
  have hE := unhide HE0
  clear HE0
  have HE := hide hE
  have c1 := hE.c1
  have c2 := hE.c2
  have c3 := hE.c3
  have c4 := hE.c4
  have x0 := hE.x0
  have x1 := hE.x1
  have x2 := hE.x2
  have x3 := hE.x3
  have x4 := hE.x4
  clear hE
  go_quiet ((go_at_call 41; exact Calls.quiet_of_same (unhide HS2 _)))
  clear c1 c2 c3 c4 x0 x1 x2 x3 x4
  have hE := (unhide HE).drewN nq
  have HD2 := hide ((unhide HD).drewN nq)
  have HB2 := hide (belowDrewN (unhide HB) nq)
  have HX2 : Hid (w.heap.size < (w2.drewN nq).heap.size) := unhide HX
  clear HE HD HB HX
  generalize w2.drewN nq = w3 at *
  have HD := hide (unhide HD2)
  have HB := hide (unhide HB2)
  have HX := hide (unhide HX2)
  clear HD2 HB2 HX2
  have HE0 := hide hE
  clear hE
  go_wp2
  have hE := unhide HE0
  clear HE0
  have HE := hide hE
  have c1 := hE.c1
  have c2 := hE.c2
  have c3 := hE.c3
  have c4 := hE.c4
  have x0 := hE.x0
  have x1 := hE.x1
  have x2 := hE.x2
  have x3 := hE.x3
  have x4 := hE.x4
  clear hE
  go_quiet ((go_at_call 41; exact Calls.quiet_of_same (unhide HS2 _)))
  clear c1 c2 c3 c4 x0 x1 x2 x3 x4
  have hE := (unhide HE).drewN nq
  have HD2 := hide ((unhide HD).drewN nq)
  have HB2 := hide (belowDrewN (unhide HB) nq)
  have HX2 : Hid (w.heap.size < (w3.drewN nq).heap.size) := unhide HX
  clear HE HD HB HX
  generalize w3.drewN nq = w4 at *
  have HD := hide (unhide HD2)
  have HB := hide (unhide HB2)
  have HX := hide (unhide HX2)
  clear HD2 HB2 HX2
  have c1 := hE.c1
  have c2 := hE.c2
  have c3 := hE.c3
  have c4 := hE.c4
  have x0 := hE.x0
  have x1 := hE.x1
  have x2 := hE.x2
  have x3 := hE.x3
  have x4 := hE.x4
  clear hE
  have HA := hide (fun u (hd : Dk u B D σ) => pTake hd (unhide HAB).1 i)
  have HR : Hid (∀ u σ1 (gS gT : Sq → Nat), Rl σ σ1 a gS gT → Dk u B D σ1 → Calls Tryd.prog 45 #[refV (σ a), .int .i64 i] u fun e w' => e = .returned (.int .i64 (oneR i (σ a))) ∧ Left u w' B D σ1 a (fun s => s.S) (fun s => Sp.takeS s.n s.T i)) := fun u σ1 gS gT r hd => by
    rw [← r.refV a, ← r.one i]
    exact dTake hd (unhide HAB).1 i
  have HXn := hide ((unhide HH).1.off (unhide HAB).1)
  have HDd := hide (unhide HD).drew
  have HBd : Hid (Below w.heap.size w w4.drew) := ⟨(unhide HB).os, (unhide HB).tape, (unhide HB).output, (unhide HB).size, (unhide HB).block⟩
  clear c1 c2 c3 c4
  go_wp2
  go_region_held3 (fun u => u.cell? ⟨w.heap.size, 3, none⟩ = some (.int .i64 i)) (first | (go_keep; done) | exact y3 | exact z3) (first | (go_at_call 25; refine (unhide HA _ (unhide HDd)).mono ?_; rintro e w5 ⟨rfl, σ1, hl1⟩; have HL1 := hide hl1; have HOf := hide (hl1.off (unhide HX) (unhide HXn)); have z3 := ((unhide HOf).2.1 3).trans x3; clear hl1) | (go_at_call 45; refine (unhide HR _ σ1 _ _ (unhide HL1).r (unhide HL1).d).mono ?_; rintro e w6 ⟨rfl, σ2, hl2⟩; have HL2 := hide hl2; have HOg := hide (hl2.off (unhide HOf).2.2 (unhide HOf).1); have y3 := ((unhide HOg).2.1 3).trans z3; clear hl2))
  go_wp2
  go_ret
  exact ⟨rfl, Went.mk (unhide HH).1 (unhide HH).2 (unhide HBd) (unhide HDd) (unhide HL1) (unhide HL2) (fun s t _ _ h1 h2 => by simp only [h1, h2])⟩
set_option maxRecDepth 100000 in
set_option maxHeartbeats 2000000 in
theorem turns_fill (h : Dk w B D σ) (he : Like σ) (on wi i j : Int) (s : ByteArray) : Calls Tryd.prog 17 #[.pointer (some ⟨D, 0, none⟩), .agg #[.int .i64 9, .int .i64 on, .int .i64 wi, .int .i64 i, .int .i64 j, .string s]] w fun e w' => e = .returned (.bool true) ∧ Went w w' B D := by
  have HS1 := hide (fun u => lSeat on u)
  have HS2 := hide (fun u => lSeat wi u)
  have ha := sm_lt on
  have hb := sm_lt wi
  generalize sm on = a at *
  generalize sm wi = b at *
  have hE := En.start h ha hb 9 on wi i j s
  have hbel := (Below.refl w.heap.size w).alloc (Nat.le_refl _) (.cells #[.int .i64 9, .int .i64 on, .int .i64 wi, .int .i64 i, .int .i64 j, .string s] 32)
  have HH := hide (And.intro h he)
  have HD := hide (h.keep hbel)
  have HB := hide hbel
  have ha3 : ((a : Nat) : Int) < 3 := by omega
  have hb3 : ((b : Nat) : Int) < 3 := by omega
  have HAB := hide (And.intro ha hb)
  have hX : w.heap.size < (w.alloc (.cells #[.int .i64 9, .int .i64 on, .int .i64 wi, .int .i64 i, .int .i64 j, .string s] 32)).heap.size := World.block_lt_of_cell? _ _ hE.x0
  have HX := hide hX
  clear h he hbel hX
  go_enter Tryd.func17, Tryd.ntmps17
  go_wp2
  generalize w.alloc (.cells #[.int .i64 9, .int .i64 on, .int .i64 wi, .int .i64 i, .int .i64 j, .string s] 32) = w0 at *
  have HE := hide hE
  have c1 := hE.c1
  have c2 := hE.c2
  have c3 := hE.c3
  have c4 := hE.c4
  have x0 := hE.x0
  have x1 := hE.x1
  have x2 := hE.x2
  have x3 := hE.x3
  have x4 := hE.x4
  clear hE
  go_quiet ((go_at_call 41; exact Calls.quiet_of_same (unhide HS1 _)))
  clear c1 c2 c3 c4 x0 x1 x2 x3 x4
  have hE := (unhide HE).drewN nq
  have HD2 := hide ((unhide HD).drewN nq)
  have HB2 := hide (belowDrewN (unhide HB) nq)
  have HX2 : Hid (w.heap.size < (w0.drewN nq).heap.size) := unhide HX
  clear HE HD HB HX
  generalize w0.drewN nq = w1 at *
  have HD := hide (unhide HD2)
  have HB := hide (unhide HB2)
  have HX := hide (unhide HX2)
  clear HD2 HB2 HX2
  have HE0 := hide hE
  clear hE
  go_wp2
  have hE := unhide HE0
  clear HE0
  have HE := hide hE
  have c1 := hE.c1
  have c2 := hE.c2
  have c3 := hE.c3
  have c4 := hE.c4
  have x0 := hE.x0
  have x1 := hE.x1
  have x2 := hE.x2
  have x3 := hE.x3
  have x4 := hE.x4
  clear hE
  go_quiet ((go_at_call 41; exact Calls.quiet_of_same (unhide HS1 _)))
  clear c1 c2 c3 c4 x0 x1 x2 x3 x4
  have hE := (unhide HE).drewN nq
  have HD2 := hide ((unhide HD).drewN nq)
  have HB2 := hide (belowDrewN (unhide HB) nq)
  have HX2 : Hid (w.heap.size < (w1.drewN nq).heap.size) := unhide HX
  clear HE HD HB HX
  generalize w1.drewN nq = w2 at *
  have HD := hide (unhide HD2)
  have HB := hide (unhide HB2)
  have HX := hide (unhide HX2)
  clear HD2 HB2 HX2
  have HE0 := hide hE
  clear hE
  go_wp2
  have hE := unhide HE0
  clear HE0
  have HE := hide hE
  have c1 := hE.c1
  have c2 := hE.c2
  have c3 := hE.c3
  have c4 := hE.c4
  have x0 := hE.x0
  have x1 := hE.x1
  have x2 := hE.x2
  have x3 := hE.x3
  have x4 := hE.x4
  clear hE
  go_quiet ((go_at_call 41; exact Calls.quiet_of_same (unhide HS2 _)))
  clear c1 c2 c3 c4 x0 x1 x2 x3 x4
  have hE := (unhide HE).drewN nq
  have HD2 := hide ((unhide HD).drewN nq)
  have HB2 := hide (belowDrewN (unhide HB) nq)
  have HX2 : Hid (w.heap.size < (w2.drewN nq).heap.size) := unhide HX
  clear HE HD HB HX
  generalize w2.drewN nq = w3 at *
  have HD := hide (unhide HD2)
  have HB := hide (unhide HB2)
  have HX := hide (unhide HX2)
  clear HD2 HB2 HX2
  have HE0 := hide hE
  clear hE
  go_wp2
  have hE := unhide HE0
  clear HE0
  have HE := hide hE
  have c1 := hE.c1
  have c2 := hE.c2
  have c3 := hE.c3
  have c4 := hE.c4
  have x0 := hE.x0
  have x1 := hE.x1
  have x2 := hE.x2
  have x3 := hE.x3
  have x4 := hE.x4
  clear hE
  go_quiet ((go_at_call 41; exact Calls.quiet_of_same (unhide HS2 _)))
  clear c1 c2 c3 c4 x0 x1 x2 x3 x4
  have hE := (unhide HE).drewN nq
  have HD2 := hide ((unhide HD).drewN nq)
  have HB2 := hide (belowDrewN (unhide HB) nq)
  have HX2 : Hid (w.heap.size < (w3.drewN nq).heap.size) := unhide HX
  clear HE HD HB HX
  generalize w3.drewN nq = w4 at *
  have HD := hide (unhide HD2)
  have HB := hide (unhide HB2)
  have HX := hide (unhide HX2)
  clear HD2 HB2 HX2
  have c1 := hE.c1
  have c2 := hE.c2
  have c3 := hE.c3
  have c4 := hE.c4
  have x0 := hE.x0
  have x1 := hE.x1
  have x2 := hE.x2
  have x3 := hE.x3
  have x4 := hE.x4
  clear hE
  have HA := hide (fun u (hd : Dk u B D σ) => pFill hd (unhide HAB).1 i j)
  have HR : Hid (∀ u σ1 (gS gT : Sq → Nat), Rl σ σ1 a gS gT → Dk u B D σ1 → Calls Tryd.prog 46 #[refV (σ a), .int .i64 i, .int .i64 j] u fun e w' => e = .returned (.int .i64 (fillR i j (σ a))) ∧ Left u w' B D σ1 a (fun s => s.S) (fun s => Sp.fillS s.n s.T i j)) := fun u σ1 gS gT r hd => by
    rw [← r.refV a, ← r.fill i j]
    exact dFill hd (unhide HAB).1 i j
  have HXn := hide ((unhide HH).1.off (unhide HAB).1)
  have HDd := hide (unhide HD).drew
  have HBd : Hid (Below w.heap.size w w4.drew) := ⟨(unhide HB).os, (unhide HB).tape, (unhide HB).output, (unhide HB).size, (unhide HB).block⟩
  clear c1 c2 c3 c4
  go_wp2
  go_region_held3 (fun u => u.cell? ⟨w.heap.size, 3, none⟩ = some (.int .i64 i) ∧ u.cell? ⟨w.heap.size, 4, none⟩ = some (.int .i64 j)) (first | (go_keep; done) | exact ⟨y3, y4⟩ | exact ⟨z3, z4⟩) (first | (go_at_call 32; refine (unhide HA _ (unhide HDd)).mono ?_; rintro e w5 ⟨rfl, σ1, hl1⟩; have HL1 := hide hl1; have HOf := hide (hl1.off (unhide HX) (unhide HXn)); have z3 := ((unhide HOf).2.1 3).trans x3; have z4 := ((unhide HOf).2.1 4).trans x4; clear hl1) | (go_at_call 46; refine (unhide HR _ σ1 _ _ (unhide HL1).r (unhide HL1).d).mono ?_; rintro e w6 ⟨rfl, σ2, hl2⟩; have HL2 := hide hl2; have HOg := hide (hl2.off (unhide HOf).2.2 (unhide HOf).1); have y3 := ((unhide HOg).2.1 3).trans z3; have y4 := ((unhide HOg).2.1 4).trans z4; clear hl2))
  go_wp2
  go_ret
  exact ⟨rfl, Went.mk (unhide HH).1 (unhide HH).2 (unhide HBd) (unhide HDd) (unhide HL1) (unhide HL2) (fun s t _ _ h1 h2 => by simp only [h1, h2])⟩
set_option maxRecDepth 100000 in
set_option maxHeartbeats 2000000 in
theorem turns_clear (h : Dk w B D σ) (he : Like σ) (on wi i j : Int) (s : ByteArray) : Calls Tryd.prog 17 #[.pointer (some ⟨D, 0, none⟩), .agg #[.int .i64 10, .int .i64 on, .int .i64 wi, .int .i64 i, .int .i64 j, .string s]] w fun e w' => e = .returned (.bool true) ∧ Went w w' B D := by
  have HS1 := hide (fun u => lSeat on u)
  have HS2 := hide (fun u => lSeat wi u)
  have ha := sm_lt on
  have hb := sm_lt wi
  generalize sm on = a at *
  generalize sm wi = b at *
  have hE := En.start h ha hb 10 on wi i j s
  have hbel := (Below.refl w.heap.size w).alloc (Nat.le_refl _) (.cells #[.int .i64 10, .int .i64 on, .int .i64 wi, .int .i64 i, .int .i64 j, .string s] 32)
  have HH := hide (And.intro h he)
  have HD := hide (h.keep hbel)
  have HB := hide hbel
  have ha3 : ((a : Nat) : Int) < 3 := by omega
  have hb3 : ((b : Nat) : Int) < 3 := by omega
  have HAB := hide (And.intro ha hb)
  have hX : w.heap.size < (w.alloc (.cells #[.int .i64 10, .int .i64 on, .int .i64 wi, .int .i64 i, .int .i64 j, .string s] 32)).heap.size := World.block_lt_of_cell? _ _ hE.x0
  have HX := hide hX
  clear h he hbel hX
  go_enter Tryd.func17, Tryd.ntmps17
  go_wp2
  generalize w.alloc (.cells #[.int .i64 10, .int .i64 on, .int .i64 wi, .int .i64 i, .int .i64 j, .string s] 32) = w0 at *
  have HE := hide hE
  have c1 := hE.c1
  have c2 := hE.c2
  have c3 := hE.c3
  have c4 := hE.c4
  have x0 := hE.x0
  have x1 := hE.x1
  have x2 := hE.x2
  have x3 := hE.x3
  have x4 := hE.x4
  clear hE
  go_quiet ((go_at_call 41; exact Calls.quiet_of_same (unhide HS1 _)))
  clear c1 c2 c3 c4 x0 x1 x2 x3 x4
  have hE := (unhide HE).drewN nq
  have HD2 := hide ((unhide HD).drewN nq)
  have HB2 := hide (belowDrewN (unhide HB) nq)
  have HX2 : Hid (w.heap.size < (w0.drewN nq).heap.size) := unhide HX
  clear HE HD HB HX
  generalize w0.drewN nq = w1 at *
  have HD := hide (unhide HD2)
  have HB := hide (unhide HB2)
  have HX := hide (unhide HX2)
  clear HD2 HB2 HX2
  have HE0 := hide hE
  clear hE
  go_wp2
  have hE := unhide HE0
  clear HE0
  have HE := hide hE
  have c1 := hE.c1
  have c2 := hE.c2
  have c3 := hE.c3
  have c4 := hE.c4
  have x0 := hE.x0
  have x1 := hE.x1
  have x2 := hE.x2
  have x3 := hE.x3
  have x4 := hE.x4
  clear hE
  go_quiet ((go_at_call 41; exact Calls.quiet_of_same (unhide HS1 _)))
  clear c1 c2 c3 c4 x0 x1 x2 x3 x4
  have hE := (unhide HE).drewN nq
  have HD2 := hide ((unhide HD).drewN nq)
  have HB2 := hide (belowDrewN (unhide HB) nq)
  have HX2 : Hid (w.heap.size < (w1.drewN nq).heap.size) := unhide HX
  clear HE HD HB HX
  generalize w1.drewN nq = w2 at *
  have HD := hide (unhide HD2)
  have HB := hide (unhide HB2)
  have HX := hide (unhide HX2)
  clear HD2 HB2 HX2
  have HE0 := hide hE
  clear hE
  go_wp2
  have hE := unhide HE0
  clear HE0
  have HE := hide hE
  have c1 := hE.c1
  have c2 := hE.c2
  have c3 := hE.c3
  have c4 := hE.c4
  have x0 := hE.x0
  have x1 := hE.x1
  have x2 := hE.x2
  have x3 := hE.x3
  have x4 := hE.x4
  clear hE
  go_quiet ((go_at_call 41; exact Calls.quiet_of_same (unhide HS2 _)))
  clear c1 c2 c3 c4 x0 x1 x2 x3 x4
  have hE := (unhide HE).drewN nq
  have HD2 := hide ((unhide HD).drewN nq)
  have HB2 := hide (belowDrewN (unhide HB) nq)
  have HX2 : Hid (w.heap.size < (w2.drewN nq).heap.size) := unhide HX
  clear HE HD HB HX
  generalize w2.drewN nq = w3 at *
  have HD := hide (unhide HD2)
  have HB := hide (unhide HB2)
  have HX := hide (unhide HX2)
  clear HD2 HB2 HX2
  have HE0 := hide hE
  clear hE
  go_wp2
  have hE := unhide HE0
  clear HE0
  have HE := hide hE
  have c1 := hE.c1
  have c2 := hE.c2
  have c3 := hE.c3
  have c4 := hE.c4
  have x0 := hE.x0
  have x1 := hE.x1
  have x2 := hE.x2
  have x3 := hE.x3
  have x4 := hE.x4
  clear hE
  go_quiet ((go_at_call 41; exact Calls.quiet_of_same (unhide HS2 _)))
  clear c1 c2 c3 c4 x0 x1 x2 x3 x4
  have hE := (unhide HE).drewN nq
  have HD2 := hide ((unhide HD).drewN nq)
  have HB2 := hide (belowDrewN (unhide HB) nq)
  have HX2 : Hid (w.heap.size < (w3.drewN nq).heap.size) := unhide HX
  clear HE HD HB HX
  generalize w3.drewN nq = w4 at *
  have HD := hide (unhide HD2)
  have HB := hide (unhide HB2)
  have HX := hide (unhide HX2)
  clear HD2 HB2 HX2
  have c1 := hE.c1
  have c2 := hE.c2
  have c3 := hE.c3
  have c4 := hE.c4
  have x0 := hE.x0
  have x1 := hE.x1
  have x2 := hE.x2
  have x3 := hE.x3
  have x4 := hE.x4
  clear hE
  have HA := hide (fun u (hd : Dk u B D σ) => pClear hd (unhide HAB).1)
  have HR : Hid (∀ u σ1 (gS gT : Sq → Nat), Rl σ σ1 a gS gT → Dk u B D σ1 → Calls Tryd.prog 50 #[refV (σ a)] u fun e w' => e = .returned (.tuple #[]) ∧ Left u w' B D σ1 a (fun s => s.S) (fun _ => 0)) := fun u σ1 gS gT r hd => by
    rw [← r.refV a]
    exact dClear hd (unhide HAB).1
  have HDd := hide (unhide HD)
  have HBd := hide (unhide HB)
  clear c1 c2 c3 c4
  go_wp2_with fail
  refine (unhide HA _ (unhide HDd)).mono ?_
  rintro e w5 ⟨rfl, σ1, hl1⟩
  have HL1 := hide hl1
  clear hl1
  go_wp2_with fail
  refine (unhide HR _ σ1 _ _ (unhide HL1).r (unhide HL1).d).mono ?_
  rintro e w6 ⟨rfl, σ2, hl2⟩
  have HL2 := hide hl2
  clear hl2
  go_wp2
  go_ret
  exact ⟨rfl, Went.mk (unhide HH).1 (unhide HH).2 (unhide HBd) (unhide HDd) (unhide HL1) (unhide HL2) (fun _ _ _ _ _ _ => rfl)⟩
set_option maxRecDepth 100000 in
set_option maxHeartbeats 2000000 in
theorem turns_or (h : Dk w B D σ) (he : Like σ) (on wi i j : Int) (s : ByteArray) : Calls Tryd.prog 17 #[.pointer (some ⟨D, 0, none⟩), .agg #[.int .i64 11, .int .i64 on, .int .i64 wi, .int .i64 i, .int .i64 j, .string s]] w fun e w' => e = .returned (.bool true) ∧ Went w w' B D := by
  have HS1 := hide (fun u => lSeat on u)
  have HS2 := hide (fun u => lSeat wi u)
  have ha := sm_lt on
  have hb := sm_lt wi
  generalize sm on = a at *
  generalize sm wi = b at *
  have hE := En.start h ha hb 11 on wi i j s
  have hbel := (Below.refl w.heap.size w).alloc (Nat.le_refl _) (.cells #[.int .i64 11, .int .i64 on, .int .i64 wi, .int .i64 i, .int .i64 j, .string s] 32)
  have HH := hide (And.intro h he)
  have HD := hide (h.keep hbel)
  have HB := hide hbel
  have ha3 : ((a : Nat) : Int) < 3 := by omega
  have hb3 : ((b : Nat) : Int) < 3 := by omega
  have HAB := hide (And.intro ha hb)
  have hX : w.heap.size < (w.alloc (.cells #[.int .i64 11, .int .i64 on, .int .i64 wi, .int .i64 i, .int .i64 j, .string s] 32)).heap.size := World.block_lt_of_cell? _ _ hE.x0
  have HX := hide hX
  clear h he hbel hX
  go_enter Tryd.func17, Tryd.ntmps17
  go_wp2
  generalize w.alloc (.cells #[.int .i64 11, .int .i64 on, .int .i64 wi, .int .i64 i, .int .i64 j, .string s] 32) = w0 at *
  have HE := hide hE
  have c1 := hE.c1
  have c2 := hE.c2
  have c3 := hE.c3
  have c4 := hE.c4
  have x0 := hE.x0
  have x1 := hE.x1
  have x2 := hE.x2
  have x3 := hE.x3
  have x4 := hE.x4
  clear hE
  go_quiet ((go_at_call 41; exact Calls.quiet_of_same (unhide HS1 _)))
  clear c1 c2 c3 c4 x0 x1 x2 x3 x4
  have hE := (unhide HE).drewN nq
  have HD2 := hide ((unhide HD).drewN nq)
  have HB2 := hide (belowDrewN (unhide HB) nq)
  have HX2 : Hid (w.heap.size < (w0.drewN nq).heap.size) := unhide HX
  clear HE HD HB HX
  generalize w0.drewN nq = w1 at *
  have HD := hide (unhide HD2)
  have HB := hide (unhide HB2)
  have HX := hide (unhide HX2)
  clear HD2 HB2 HX2
  have HE0 := hide hE
  clear hE
  go_wp2
  have hE := unhide HE0
  clear HE0
  have HE := hide hE
  have c1 := hE.c1
  have c2 := hE.c2
  have c3 := hE.c3
  have c4 := hE.c4
  have x0 := hE.x0
  have x1 := hE.x1
  have x2 := hE.x2
  have x3 := hE.x3
  have x4 := hE.x4
  clear hE
  go_quiet ((go_at_call 41; exact Calls.quiet_of_same (unhide HS1 _)))
  clear c1 c2 c3 c4 x0 x1 x2 x3 x4
  have hE := (unhide HE).drewN nq
  have HD2 := hide ((unhide HD).drewN nq)
  have HB2 := hide (belowDrewN (unhide HB) nq)
  have HX2 : Hid (w.heap.size < (w1.drewN nq).heap.size) := unhide HX
  clear HE HD HB HX
  generalize w1.drewN nq = w2 at *
  have HD := hide (unhide HD2)
  have HB := hide (unhide HB2)
  have HX := hide (unhide HX2)
  clear HD2 HB2 HX2
  have HE0 := hide hE
  clear hE
  go_wp2
  have hE := unhide HE0
  clear HE0
  have HE := hide hE
  have c1 := hE.c1
  have c2 := hE.c2
  have c3 := hE.c3
  have c4 := hE.c4
  have x0 := hE.x0
  have x1 := hE.x1
  have x2 := hE.x2
  have x3 := hE.x3
  have x4 := hE.x4
  clear hE
  go_quiet ((go_at_call 41; exact Calls.quiet_of_same (unhide HS2 _)))
  clear c1 c2 c3 c4 x0 x1 x2 x3 x4
  have hE := (unhide HE).drewN nq
  have HD2 := hide ((unhide HD).drewN nq)
  have HB2 := hide (belowDrewN (unhide HB) nq)
  have HX2 : Hid (w.heap.size < (w2.drewN nq).heap.size) := unhide HX
  clear HE HD HB HX
  generalize w2.drewN nq = w3 at *
  have HD := hide (unhide HD2)
  have HB := hide (unhide HB2)
  have HX := hide (unhide HX2)
  clear HD2 HB2 HX2
  have HE0 := hide hE
  clear hE
  go_wp2
  have hE := unhide HE0
  clear HE0
  have HE := hide hE
  have c1 := hE.c1
  have c2 := hE.c2
  have c3 := hE.c3
  have c4 := hE.c4
  have x0 := hE.x0
  have x1 := hE.x1
  have x2 := hE.x2
  have x3 := hE.x3
  have x4 := hE.x4
  clear hE
  go_quiet ((go_at_call 41; exact Calls.quiet_of_same (unhide HS2 _)))
  clear c1 c2 c3 c4 x0 x1 x2 x3 x4
  have hE := (unhide HE).drewN nq
  have HD2 := hide ((unhide HD).drewN nq)
  have HB2 := hide (belowDrewN (unhide HB) nq)
  have HX2 : Hid (w.heap.size < (w3.drewN nq).heap.size) := unhide HX
  clear HE HD HB HX
  generalize w3.drewN nq = w4 at *
  have HD := hide (unhide HD2)
  have HB := hide (unhide HB2)
  have HX := hide (unhide HX2)
  clear HD2 HB2 HX2
  have c1 := hE.c1
  have c2 := hE.c2
  have c3 := hE.c3
  have c4 := hE.c4
  have x0 := hE.x0
  have x1 := hE.x1
  have x2 := hE.x2
  have x3 := hE.x3
  have x4 := hE.x4
  clear hE
  have HA := hide (fun u (hd : Dk u B D σ) => pOr hd (unhide HAB).1 (unhide HAB).2)
  have HR : Hid (∀ u σ1 (gS gT : Sq → Nat), Rl σ σ1 a gS gT → Dk u B D σ1 → Calls Tryd.prog 47 #[refV (σ a), refV (σ b)] u fun e w' => e = .returned (.int .i64 (twoR (σ a) (σ b))) ∧ Left u w' B D σ1 a (fun s => s.S) (twoG (· ||| ·) (σ1 b) Sq.T)) := fun u σ1 gS gT r hd => by
    rw [← r.refV a, ← r.refV b, ← r.two a b]
    exact dOr hd (unhide HAB).1 (unhide HAB).2
  have HDd := hide (unhide HD)
  have HBd := hide (unhide HB)
  clear c1 c2 c3 c4
  go_wp2_with fail
  refine (unhide HA _ (unhide HDd)).mono ?_
  rintro e w5 ⟨rfl, σ1, hl1⟩
  have HL1 := hide hl1
  clear hl1
  go_wp2_with fail
  refine (unhide HR _ σ1 _ _ (unhide HL1).r (unhide HL1).d).mono ?_
  rintro e w6 ⟨rfl, σ2, hl2⟩
  have HL2 := hide hl2
  clear hl2
  go_wp2
  go_ret
  exact ⟨rfl, Went.mk (unhide HH).1 (unhide HH).2 (unhide HBd) (unhide HDd) (unhide HL1) (unhide HL2) (two_like (· ||| ·) (unhide HH).2 (unhide HL1).r)⟩
set_option maxRecDepth 100000 in
set_option maxHeartbeats 2000000 in
theorem turns_and (h : Dk w B D σ) (he : Like σ) (on wi i j : Int) (s : ByteArray) : Calls Tryd.prog 17 #[.pointer (some ⟨D, 0, none⟩), .agg #[.int .i64 12, .int .i64 on, .int .i64 wi, .int .i64 i, .int .i64 j, .string s]] w fun e w' => e = .returned (.bool true) ∧ Went w w' B D := by
  have HS1 := hide (fun u => lSeat on u)
  have HS2 := hide (fun u => lSeat wi u)
  have ha := sm_lt on
  have hb := sm_lt wi
  generalize sm on = a at *
  generalize sm wi = b at *
  have hE := En.start h ha hb 12 on wi i j s
  have hbel := (Below.refl w.heap.size w).alloc (Nat.le_refl _) (.cells #[.int .i64 12, .int .i64 on, .int .i64 wi, .int .i64 i, .int .i64 j, .string s] 32)
  have HH := hide (And.intro h he)
  have HD := hide (h.keep hbel)
  have HB := hide hbel
  have ha3 : ((a : Nat) : Int) < 3 := by omega
  have hb3 : ((b : Nat) : Int) < 3 := by omega
  have HAB := hide (And.intro ha hb)
  have hX : w.heap.size < (w.alloc (.cells #[.int .i64 12, .int .i64 on, .int .i64 wi, .int .i64 i, .int .i64 j, .string s] 32)).heap.size := World.block_lt_of_cell? _ _ hE.x0
  have HX := hide hX
  clear h he hbel hX
  go_enter Tryd.func17, Tryd.ntmps17
  go_wp2
  generalize w.alloc (.cells #[.int .i64 12, .int .i64 on, .int .i64 wi, .int .i64 i, .int .i64 j, .string s] 32) = w0 at *
  have HE := hide hE
  have c1 := hE.c1
  have c2 := hE.c2
  have c3 := hE.c3
  have c4 := hE.c4
  have x0 := hE.x0
  have x1 := hE.x1
  have x2 := hE.x2
  have x3 := hE.x3
  have x4 := hE.x4
  clear hE
  go_quiet ((go_at_call 41; exact Calls.quiet_of_same (unhide HS1 _)))
  clear c1 c2 c3 c4 x0 x1 x2 x3 x4
  have hE := (unhide HE).drewN nq
  have HD2 := hide ((unhide HD).drewN nq)
  have HB2 := hide (belowDrewN (unhide HB) nq)
  have HX2 : Hid (w.heap.size < (w0.drewN nq).heap.size) := unhide HX
  clear HE HD HB HX
  generalize w0.drewN nq = w1 at *
  have HD := hide (unhide HD2)
  have HB := hide (unhide HB2)
  have HX := hide (unhide HX2)
  clear HD2 HB2 HX2
  have HE0 := hide hE
  clear hE
  go_wp2
  have hE := unhide HE0
  clear HE0
  have HE := hide hE
  have c1 := hE.c1
  have c2 := hE.c2
  have c3 := hE.c3
  have c4 := hE.c4
  have x0 := hE.x0
  have x1 := hE.x1
  have x2 := hE.x2
  have x3 := hE.x3
  have x4 := hE.x4
  clear hE
  go_quiet ((go_at_call 41; exact Calls.quiet_of_same (unhide HS1 _)))
  clear c1 c2 c3 c4 x0 x1 x2 x3 x4
  have hE := (unhide HE).drewN nq
  have HD2 := hide ((unhide HD).drewN nq)
  have HB2 := hide (belowDrewN (unhide HB) nq)
  have HX2 : Hid (w.heap.size < (w1.drewN nq).heap.size) := unhide HX
  clear HE HD HB HX
  generalize w1.drewN nq = w2 at *
  have HD := hide (unhide HD2)
  have HB := hide (unhide HB2)
  have HX := hide (unhide HX2)
  clear HD2 HB2 HX2
  have HE0 := hide hE
  clear hE
  go_wp2
  have hE := unhide HE0
  clear HE0
  have HE := hide hE
  have c1 := hE.c1
  have c2 := hE.c2
  have c3 := hE.c3
  have c4 := hE.c4
  have x0 := hE.x0
  have x1 := hE.x1
  have x2 := hE.x2
  have x3 := hE.x3
  have x4 := hE.x4
  clear hE
  go_quiet ((go_at_call 41; exact Calls.quiet_of_same (unhide HS2 _)))
  clear c1 c2 c3 c4 x0 x1 x2 x3 x4
  have hE := (unhide HE).drewN nq
  have HD2 := hide ((unhide HD).drewN nq)
  have HB2 := hide (belowDrewN (unhide HB) nq)
  have HX2 : Hid (w.heap.size < (w2.drewN nq).heap.size) := unhide HX
  clear HE HD HB HX
  generalize w2.drewN nq = w3 at *
  have HD := hide (unhide HD2)
  have HB := hide (unhide HB2)
  have HX := hide (unhide HX2)
  clear HD2 HB2 HX2
  have HE0 := hide hE
  clear hE
  go_wp2
  have hE := unhide HE0
  clear HE0
  have HE := hide hE
  have c1 := hE.c1
  have c2 := hE.c2
  have c3 := hE.c3
  have c4 := hE.c4
  have x0 := hE.x0
  have x1 := hE.x1
  have x2 := hE.x2
  have x3 := hE.x3
  have x4 := hE.x4
  clear hE
  go_quiet ((go_at_call 41; exact Calls.quiet_of_same (unhide HS2 _)))
  clear c1 c2 c3 c4 x0 x1 x2 x3 x4
  have hE := (unhide HE).drewN nq
  have HD2 := hide ((unhide HD).drewN nq)
  have HB2 := hide (belowDrewN (unhide HB) nq)
  have HX2 : Hid (w.heap.size < (w3.drewN nq).heap.size) := unhide HX
  clear HE HD HB HX
  generalize w3.drewN nq = w4 at *
  have HD := hide (unhide HD2)
  have HB := hide (unhide HB2)
  have HX := hide (unhide HX2)
  clear HD2 HB2 HX2
  have c1 := hE.c1
  have c2 := hE.c2
  have c3 := hE.c3
  have c4 := hE.c4
  have x0 := hE.x0
  have x1 := hE.x1
  have x2 := hE.x2
  have x3 := hE.x3
  have x4 := hE.x4
  clear hE
  have HA := hide (fun u (hd : Dk u B D σ) => pAnd hd (unhide HAB).1 (unhide HAB).2)
  have HR : Hid (∀ u σ1 (gS gT : Sq → Nat), Rl σ σ1 a gS gT → Dk u B D σ1 → Calls Tryd.prog 48 #[refV (σ a), refV (σ b)] u fun e w' => e = .returned (.int .i64 (twoR (σ a) (σ b))) ∧ Left u w' B D σ1 a (fun s => s.S) (twoG (· &&& ·) (σ1 b) Sq.T)) := fun u σ1 gS gT r hd => by
    rw [← r.refV a, ← r.refV b, ← r.two a b]
    exact dAnd hd (unhide HAB).1 (unhide HAB).2
  have HDd := hide (unhide HD)
  have HBd := hide (unhide HB)
  clear c1 c2 c3 c4
  go_wp2_with fail
  refine (unhide HA _ (unhide HDd)).mono ?_
  rintro e w5 ⟨rfl, σ1, hl1⟩
  have HL1 := hide hl1
  clear hl1
  go_wp2_with fail
  refine (unhide HR _ σ1 _ _ (unhide HL1).r (unhide HL1).d).mono ?_
  rintro e w6 ⟨rfl, σ2, hl2⟩
  have HL2 := hide hl2
  clear hl2
  go_wp2
  go_ret
  exact ⟨rfl, Went.mk (unhide HH).1 (unhide HH).2 (unhide HBd) (unhide HDd) (unhide HL1) (unhide HL2) (two_like (· &&& ·) (unhide HH).2 (unhide HL1).r)⟩
set_option maxRecDepth 100000 in
set_option maxHeartbeats 2000000 in
theorem turns_minus (h : Dk w B D σ) (he : Like σ) (on wi i j : Int) (s : ByteArray) : Calls Tryd.prog 17 #[.pointer (some ⟨D, 0, none⟩), .agg #[.int .i64 13, .int .i64 on, .int .i64 wi, .int .i64 i, .int .i64 j, .string s]] w fun e w' => e = .returned (.bool true) ∧ Went w w' B D := by
  have HS1 := hide (fun u => lSeat on u)
  have HS2 := hide (fun u => lSeat wi u)
  have ha := sm_lt on
  have hb := sm_lt wi
  generalize sm on = a at *
  generalize sm wi = b at *
  have hE := En.start h ha hb 13 on wi i j s
  have hbel := (Below.refl w.heap.size w).alloc (Nat.le_refl _) (.cells #[.int .i64 13, .int .i64 on, .int .i64 wi, .int .i64 i, .int .i64 j, .string s] 32)
  have HH := hide (And.intro h he)
  have HD := hide (h.keep hbel)
  have HB := hide hbel
  have ha3 : ((a : Nat) : Int) < 3 := by omega
  have hb3 : ((b : Nat) : Int) < 3 := by omega
  have HAB := hide (And.intro ha hb)
  have hX : w.heap.size < (w.alloc (.cells #[.int .i64 13, .int .i64 on, .int .i64 wi, .int .i64 i, .int .i64 j, .string s] 32)).heap.size := World.block_lt_of_cell? _ _ hE.x0
  have HX := hide hX
  clear h he hbel hX
  go_enter Tryd.func17, Tryd.ntmps17
  go_wp2
  generalize w.alloc (.cells #[.int .i64 13, .int .i64 on, .int .i64 wi, .int .i64 i, .int .i64 j, .string s] 32) = w0 at *
  have HE := hide hE
  have c1 := hE.c1
  have c2 := hE.c2
  have c3 := hE.c3
  have c4 := hE.c4
  have x0 := hE.x0
  have x1 := hE.x1
  have x2 := hE.x2
  have x3 := hE.x3
  have x4 := hE.x4
  clear hE
  go_quiet ((go_at_call 41; exact Calls.quiet_of_same (unhide HS1 _)))
  clear c1 c2 c3 c4 x0 x1 x2 x3 x4
  have hE := (unhide HE).drewN nq
  have HD2 := hide ((unhide HD).drewN nq)
  have HB2 := hide (belowDrewN (unhide HB) nq)
  have HX2 : Hid (w.heap.size < (w0.drewN nq).heap.size) := unhide HX
  clear HE HD HB HX
  generalize w0.drewN nq = w1 at *
  have HD := hide (unhide HD2)
  have HB := hide (unhide HB2)
  have HX := hide (unhide HX2)
  clear HD2 HB2 HX2
  have HE0 := hide hE
  clear hE
  go_wp2
  have hE := unhide HE0
  clear HE0
  have HE := hide hE
  have c1 := hE.c1
  have c2 := hE.c2
  have c3 := hE.c3
  have c4 := hE.c4
  have x0 := hE.x0
  have x1 := hE.x1
  have x2 := hE.x2
  have x3 := hE.x3
  have x4 := hE.x4
  clear hE
  go_quiet ((go_at_call 41; exact Calls.quiet_of_same (unhide HS1 _)))
  clear c1 c2 c3 c4 x0 x1 x2 x3 x4
  have hE := (unhide HE).drewN nq
  have HD2 := hide ((unhide HD).drewN nq)
  have HB2 := hide (belowDrewN (unhide HB) nq)
  have HX2 : Hid (w.heap.size < (w1.drewN nq).heap.size) := unhide HX
  clear HE HD HB HX
  generalize w1.drewN nq = w2 at *
  have HD := hide (unhide HD2)
  have HB := hide (unhide HB2)
  have HX := hide (unhide HX2)
  clear HD2 HB2 HX2
  have HE0 := hide hE
  clear hE
  go_wp2
  have hE := unhide HE0
  clear HE0
  have HE := hide hE
  have c1 := hE.c1
  have c2 := hE.c2
  have c3 := hE.c3
  have c4 := hE.c4
  have x0 := hE.x0
  have x1 := hE.x1
  have x2 := hE.x2
  have x3 := hE.x3
  have x4 := hE.x4
  clear hE
  go_quiet ((go_at_call 41; exact Calls.quiet_of_same (unhide HS2 _)))
  clear c1 c2 c3 c4 x0 x1 x2 x3 x4
  have hE := (unhide HE).drewN nq
  have HD2 := hide ((unhide HD).drewN nq)
  have HB2 := hide (belowDrewN (unhide HB) nq)
  have HX2 : Hid (w.heap.size < (w2.drewN nq).heap.size) := unhide HX
  clear HE HD HB HX
  generalize w2.drewN nq = w3 at *
  have HD := hide (unhide HD2)
  have HB := hide (unhide HB2)
  have HX := hide (unhide HX2)
  clear HD2 HB2 HX2
  have HE0 := hide hE
  clear hE
  go_wp2
  have hE := unhide HE0
  clear HE0
  have HE := hide hE
  have c1 := hE.c1
  have c2 := hE.c2
  have c3 := hE.c3
  have c4 := hE.c4
  have x0 := hE.x0
  have x1 := hE.x1
  have x2 := hE.x2
  have x3 := hE.x3
  have x4 := hE.x4
  clear hE
  go_quiet ((go_at_call 41; exact Calls.quiet_of_same (unhide HS2 _)))
  clear c1 c2 c3 c4 x0 x1 x2 x3 x4
  have hE := (unhide HE).drewN nq
  have HD2 := hide ((unhide HD).drewN nq)
  have HB2 := hide (belowDrewN (unhide HB) nq)
  have HX2 : Hid (w.heap.size < (w3.drewN nq).heap.size) := unhide HX
  clear HE HD HB HX
  generalize w3.drewN nq = w4 at *
  have HD := hide (unhide HD2)
  have HB := hide (unhide HB2)
  have HX := hide (unhide HX2)
  clear HD2 HB2 HX2
  have c1 := hE.c1
  have c2 := hE.c2
  have c3 := hE.c3
  have c4 := hE.c4
  have x0 := hE.x0
  have x1 := hE.x1
  have x2 := hE.x2
  have x3 := hE.x3
  have x4 := hE.x4
  clear hE
  have HA := hide (fun u (hd : Dk u B D σ) => pMinus hd (unhide HAB).1 (unhide HAB).2)
  have HR : Hid (∀ u σ1 (gS gT : Sq → Nat), Rl σ σ1 a gS gT → Dk u B D σ1 → Calls Tryd.prog 49 #[refV (σ a), refV (σ b)] u fun e w' => e = .returned (.int .i64 (twoR (σ a) (σ b))) ∧ Left u w' B D σ1 a (fun s => s.S) (twoG Bit.minus (σ1 b) Sq.T)) := fun u σ1 gS gT r hd => by
    rw [← r.refV a, ← r.refV b, ← r.two a b]
    exact dMinus hd (unhide HAB).1 (unhide HAB).2
  have HDd := hide (unhide HD)
  have HBd := hide (unhide HB)
  clear c1 c2 c3 c4
  go_wp2_with fail
  refine (unhide HA _ (unhide HDd)).mono ?_
  rintro e w5 ⟨rfl, σ1, hl1⟩
  have HL1 := hide hl1
  clear hl1
  go_wp2_with fail
  refine (unhide HR _ σ1 _ _ (unhide HL1).r (unhide HL1).d).mono ?_
  rintro e w6 ⟨rfl, σ2, hl2⟩
  have HL2 := hide hl2
  clear hl2
  go_wp2
  go_ret
  exact ⟨rfl, Went.mk (unhide HH).1 (unhide HH).2 (unhide HBd) (unhide HDd) (unhide HL1) (unhide HL2) (two_like Bit.minus (unhide HH).2 (unhide HL1).r)⟩
end
end Go.Proofs.YtloealcaagfehaaDoor
