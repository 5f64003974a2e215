/- asks: both sides tell the same of a seat. -/
import Derived.Test.YtloealcaagfehaaDoorDw
namespace Go.Proofs.YtloealcaagfehaaDoor
open Go.RowKit

section
variable {w : World} {B D : Nat} {σ : Nat → Option Sq}
theorem Went.asked {w' : World} (h : Dk w B D σ) (he : Like σ) (hb : Below w.heap.size w w') : Went w w' B D := ⟨σ, h.keep hb, he, hb.mono (Nat.le_trans h.ge (Nat.le_of_lt h.dlt))⟩
set_option maxRecDepth 100000 in
set_option maxHeartbeats 2000000 in
theorem asks_has (h : Dk w B D σ) (he : Like σ) (hTb : Tab w) (on wi i j : Int) (s : ByteArray) (hi : i64b i) : Calls Tryd.prog 38 #[.pointer (some ⟨D, 0, none⟩), .agg #[.int .i64 5, .int .i64 on, .int .i64 wi, .int .i64 i, .int .i64 j, .string s]] w fun e w' => e = .returned (.bool true) ∧ Went w w' B D := by
  have HI := hide hi
  have HTb := hide hTb
  have HP0 : Hid (0 < w.heap.size) := World.block_lt_of_cell? _ _ (hTb 0 (by decide))
  clear hi hTb
  have HS1 := hide (fun u => lSeat on u)
  have HS2 := hide (fun u => lSeat wi u)
  have ha := sm_lt on
  have hb := sm_lt wi
  generalize sm on = a at *
  generalize sm wi = b at *
  have hE := En.start h ha hb 5 on wi i j s
  have hbel := (Below.refl w.heap.size w).alloc (Nat.le_refl _) (.cells #[.int .i64 5, .int .i64 on, .int .i64 wi, .int .i64 i, .int .i64 j, .string s] 32)
  have HH := hide (And.intro h he)
  have HD := hide (h.keep hbel)
  have HB := hide hbel
  have ha3 : ((a : Nat) : Int) < 3 := by omega
  have hb3 : ((b : Nat) : Int) < 3 := by omega
  have HAB := hide (And.intro ha hb)
  have hX : w.heap.size < (w.alloc (.cells #[.int .i64 5, .int .i64 on, .int .i64 wi, .int .i64 i, .int .i64 j, .string s] 32)).heap.size := World.block_lt_of_cell? _ _ hE.x0
  have HX := hide hX
  clear h he hbel hX
  go_enter Tryd.func38, Tryd.ntmps38
  go_wp2
  generalize w.alloc (.cells #[.int .i64 5, .int .i64 on, .int .i64 wi, .int .i64 i, .int .i64 j, .string s] 32) = w0 at *
  have HE := hide hE
  have c1 := hE.c1
  have c2 := hE.c2
  have c3 := hE.c3
  have c4 := hE.c4
  have x0 := hE.x0
  have x1 := hE.x1
  have x2 := hE.x2
  have x3 := hE.x3
  have x4 := hE.x4
  clear hE
  go_quiet ((go_at_call 41; exact Calls.quiet_of_same (unhide HS1 _)))
  clear c1 c2 c3 c4 x0 x1 x2 x3 x4
  have hE := (unhide HE).drewN nq
  have HD2 := hide ((unhide HD).drewN nq)
  have HB2 := hide (belowDrewN (unhide HB) nq)
  have HX2 : Hid (w.heap.size < (w0.drewN nq).heap.size) := unhide HX
  clear HE HD HB HX
  generalize w0.drewN nq = w1 at *
  have HD := hide (unhide HD2)
  have HB := hide (unhide HB2)
  have HX := hide (unhide HX2)
  clear HD2 HB2 HX2
  have HE0 := hide hE
  clear hE
  go_wp2
  have hE := unhide HE0
  clear HE0
  have HE := hide hE
  have c1 := hE.c1
  have c2 := hE.c2
  have c3 := hE.c3
  have c4 := hE.c4
  have x0 := hE.x0
  have x1 := hE.x1
  have x2 := hE.x2
  have x3 := hE.x3
  have x4 := hE.x4
  clear hE
  go_quiet ((go_at_call 41; exact Calls.quiet_of_same (unhide HS1 _)))
  clear c1 c2 c3 c4 x0 x1 x2 x3 x4
  have hE := (unhide HE).drewN nq
  have HD2 := hide ((unhide HD).drewN nq)
  have HB2 := hide (belowDrewN (unhide HB) nq)
  have HX2 : Hid (w.heap.size < (w1.drewN nq).heap.size) := unhide HX
  clear HE HD HB HX
  generalize w1.drewN nq = w2 at *
  have HD := hide (unhide HD2)
  have HB := hide (unhide HB2)
  have HX := hide (unhide HX2)
  clear HD2 HB2 HX2
  have HTu := hide ((unhide HTb).below (unhide HB) (unhide HP0))
  have HA := hide (fun n => qHas ((unhide HD).drewN n) (unhide HAB).1 i)
  have HR := hide (fun n => rqHas ((unhide HD).drewN n) (unhide HH).2 (unhide HAB).1 i)
  have c1 := hE.c1
  have c2 := hE.c2
  have c3 := hE.c3
  have c4 := hE.c4
  have x0 := hE.x0
  have x1 := hE.x1
  have x2 := hE.x2
  have x3 := hE.x3
  have x4 := hE.x4
  clear hE
  go_wp2
  go_quiet (first | (go_at_call 20; exact Calls.quiet_of_same (unhide HA _)) | (go_at_call 62; exact Calls.quiet_of_same (unhide HR _)))
  go_wp2
  go_ret
  exact ⟨rfl, Went.asked (unhide HH).1 (unhide HH).2 (belowDrewN (unhide HB) _)⟩
set_option maxRecDepth 100000 in
set_option maxHeartbeats 2000000 in
theorem asks_count (h : Dk w B D σ) (he : Like σ) (hTb : Tab w) (on wi i j : Int) (s : ByteArray) (hi : i64b i) : Calls Tryd.prog 38 #[.pointer (some ⟨D, 0, none⟩), .agg #[.int .i64 6, .int .i64 on, .int .i64 wi, .int .i64 i, .int .i64 j, .string s]] w fun e w' => e = .returned (.bool true) ∧ Went w w' B D := by
  have HI := hide hi
  have HTb := hide hTb
  have HP0 : Hid (0 < w.heap.size) := World.block_lt_of_cell? _ _ (hTb 0 (by decide))
  clear hi hTb
  have HS1 := hide (fun u => lSeat on u)
  have HS2 := hide (fun u => lSeat wi u)
  have ha := sm_lt on
  have hb := sm_lt wi
  generalize sm on = a at *
  generalize sm wi = b at *
  have hE := En.start h ha hb 6 on wi i j s
  have hbel := (Below.refl w.heap.size w).alloc (Nat.le_refl _) (.cells #[.int .i64 6, .int .i64 on, .int .i64 wi, .int .i64 i, .int .i64 j, .string s] 32)
  have HH := hide (And.intro h he)
  have HD := hide (h.keep hbel)
  have HB := hide hbel
  have ha3 : ((a : Nat) : Int) < 3 := by omega
  have hb3 : ((b : Nat) : Int) < 3 := by omega
  have HAB := hide (And.intro ha hb)
  have hX : w.heap.size < (w.alloc (.cells #[.int .i64 6, .int .i64 on, .int .i64 wi, .int .i64 i, .int .i64 j, .string s] 32)).heap.size := World.block_lt_of_cell? _ _ hE.x0
  have HX := hide hX
  clear h he hbel hX
  go_enter Tryd.func38, Tryd.ntmps38
  go_wp2
  generalize w.alloc (.cells #[.int .i64 6, .int .i64 on, .int .i64 wi, .int .i64 i, .int .i64 j, .string s] 32) = w0 at *
  have HE := hide hE
  have c1 := hE.c1
  have c2 := hE.c2
  have c3 := hE.c3
  have c4 := hE.c4
  have x0 := hE.x0
  have x1 := hE.x1
  have x2 := hE.x2
  have x3 := hE.x3
  have x4 := hE.x4
  clear hE
  go_quiet ((go_at_call 41; exact Calls.quiet_of_same (unhide HS1 _)))
  clear c1 c2 c3 c4 x0 x1 x2 x3 x4
  have hE := (unhide HE).drewN nq
  have HD2 := hide ((unhide HD).drewN nq)
  have HB2 := hide (belowDrewN (unhide HB) nq)
  have HX2 : Hid (w.heap.size < (w0.drewN nq).heap.size) := unhide HX
  clear HE HD HB HX
  generalize w0.drewN nq = w1 at *
  have HD := hide (unhide HD2)
  have HB := hide (unhide HB2)
  have HX := hide (unhide HX2)
  clear HD2 HB2 HX2
  have HE0 := hide hE
  clear hE
  go_wp2
  have hE := unhide HE0
  clear HE0
  have HE := hide hE
  have c1 := hE.c1
  have c2 := hE.c2
  have c3 := hE.c3
  have c4 := hE.c4
  have x0 := hE.x0
  have x1 := hE.x1
  have x2 := hE.x2
  have x3 := hE.x3
  have x4 := hE.x4
  clear hE
  go_quiet ((go_at_call 41; exact Calls.quiet_of_same (unhide HS1 _)))
  clear c1 c2 c3 c4 x0 x1 x2 x3 x4
  have hE := (unhide HE).drewN nq
  have HD2 := hide ((unhide HD).drewN nq)
  have HB2 := hide (belowDrewN (unhide HB) nq)
  have HX2 : Hid (w.heap.size < (w1.drewN nq).heap.size) := unhide HX
  clear HE HD HB HX
  generalize w1.drewN nq = w2 at *
  have HD := hide (unhide HD2)
  have HB := hide (unhide HB2)
  have HX := hide (unhide HX2)
  clear HD2 HB2 HX2
  have HTu := hide ((unhide HTb).below (unhide HB) (unhide HP0))
  have c1 := hE.c1
  have c2 := hE.c2
  have c3 := hE.c3
  have c4 := hE.c4
  have x0 := hE.x0
  have x1 := hE.x1
  have x2 := hE.x2
  have x3 := hE.x3
  have x4 := hE.x4
  clear hE
  go_wp2_with fail
  refine (qCount (unhide HD) (unhide HAB).1).mono ?_
  rintro e wz ⟨rfl, hw⟩
  obtain rfl := hw.symm
  clear hw
  go_wp2_with fail
  refine (rqCount (unhide HD) (unhide HH).2 (unhide HAB).1).mono ?_
  rintro e w5 ⟨rfl, hb5⟩
  have HB5 := hide hb5
  clear hb5
  go_wp2
  go_ret
  exact ⟨rfl, Went.asked (unhide HH).1 (unhide HH).2 ((unhide HB).trans ((unhide HB5).mono (unhide HB).size))⟩
set_option maxRecDepth 100000 in
set_option maxHeartbeats 2000000 in
theorem asks_next (h : Dk w B D σ) (he : Like σ) (hTb : Tab w) (on wi i j : Int) (s : ByteArray) (hi : i64b i) : Calls Tryd.prog 38 #[.pointer (some ⟨D, 0, none⟩), .agg #[.int .i64 7, .int .i64 on, .int .i64 wi, .int .i64 i, .int .i64 j, .string s]] w fun e w' => e = .returned (.bool true) ∧ Went w w' B D := by
  have HI := hide hi
  have HTb := hide hTb
  have HP0 : Hid (0 < w.heap.size) := World.block_lt_of_cell? _ _ (hTb 0 (by decide))
  clear hi hTb
  have HS1 := hide (fun u => lSeat on u)
  have HS2 := hide (fun u => lSeat wi u)
  have ha := sm_lt on
  have hb := sm_lt wi
  generalize sm on = a at *
  generalize sm wi = b at *
  have hE := En.start h ha hb 7 on wi i j s
  have hbel := (Below.refl w.heap.size w).alloc (Nat.le_refl _) (.cells #[.int .i64 7, .int .i64 on, .int .i64 wi, .int .i64 i, .int .i64 j, .string s] 32)
  have HH := hide (And.intro h he)
  have HD := hide (h.keep hbel)
  have HB := hide hbel
  have ha3 : ((a : Nat) : Int) < 3 := by omega
  have hb3 : ((b : Nat) : Int) < 3 := by omega
  have HAB := hide (And.intro ha hb)
  have hX : w.heap.size < (w.alloc (.cells #[.int .i64 7, .int .i64 on, .int .i64 wi, .int .i64 i, .int .i64 j, .string s] 32)).heap.size := World.block_lt_of_cell? _ _ hE.x0
  have HX := hide hX
  clear h he hbel hX
  go_enter Tryd.func38, Tryd.ntmps38
  go_wp2
  generalize w.alloc (.cells #[.int .i64 7, .int .i64 on, .int .i64 wi, .int .i64 i, .int .i64 j, .string s] 32) = w0 at *
  have HE := hide hE
  have c1 := hE.c1
  have c2 := hE.c2
  have c3 := hE.c3
  have c4 := hE.c4
  have x0 := hE.x0
  have x1 := hE.x1
  have x2 := hE.x2
  have x3 := hE.x3
  have x4 := hE.x4
  clear hE
  go_quiet ((go_at_call 41; exact Calls.quiet_of_same (unhide HS1 _)))
  clear c1 c2 c3 c4 x0 x1 x2 x3 x4
  have hE := (unhide HE).drewN nq
  have HD2 := hide ((unhide HD).drewN nq)
  have HB2 := hide (belowDrewN (unhide HB) nq)
  have HX2 : Hid (w.heap.size < (w0.drewN nq).heap.size) := unhide HX
  clear HE HD HB HX
  generalize w0.drewN nq = w1 at *
  have HD := hide (unhide HD2)
  have HB := hide (unhide HB2)
  have HX := hide (unhide HX2)
  clear HD2 HB2 HX2
  have HE0 := hide hE
  clear hE
  go_wp2
  have hE := unhide HE0
  clear HE0
  have HE := hide hE
  have c1 := hE.c1
  have c2 := hE.c2
  have c3 := hE.c3
  have c4 := hE.c4
  have x0 := hE.x0
  have x1 := hE.x1
  have x2 := hE.x2
  have x3 := hE.x3
  have x4 := hE.x4
  clear hE
  go_quiet ((go_at_call 41; exact Calls.quiet_of_same (unhide HS1 _)))
  clear c1 c2 c3 c4 x0 x1 x2 x3 x4
  have hE := (unhide HE).drewN nq
  have HD2 := hide ((unhide HD).drewN nq)
  have HB2 := hide (belowDrewN (unhide HB) nq)
  have HX2 : Hid (w.heap.size < (w1.drewN nq).heap.size) := unhide HX
  clear HE HD HB HX
  generalize w1.drewN nq = w2 at *
  have HD := hide (unhide HD2)
  have HB := hide (unhide HB2)
  have HX := hide (unhide HX2)
  clear HD2 HB2 HX2
  have HTu := hide ((unhide HTb).below (unhide HB) (unhide HP0))
  obtain ⟨X, hX, hX2⟩ : ∃ X : Nat, max i 0 = (X : Int) ∧ X ≤ 9223372036854775807 := ⟨(max i 0).toNat, by omega, by have := (unhide HI).2; omega⟩
  have HA := hide (qNext (unhide HD) (unhide HTu) (unhide HAB).1 i X hX hX2)
  have HR := hide (fun c => rqNext ((unhide HD).drewN c) (unhide HH).2 (unhide HAB).1 i X hX)
  clear hX hX2
  generalize nextR X (σ a) = r at *
  obtain ⟨r1, r2⟩ := r
  have c1 := hE.c1
  have c2 := hE.c2
  have c3 := hE.c3
  have c4 := hE.c4
  have x0 := hE.x0
  have x1 := hE.x1
  have x2 := hE.x2
  have x3 := hE.x3
  have x4 := hE.x4
  clear hE
  go_wp2_with fail
  refine (unhide HA).mono ?_
  rintro e wz ⟨rfl, c, rfl⟩
  go_wp2_with fail
  refine (unhide HR c).mono ?_
  rintro e w5 ⟨rfl, hb5⟩
  have HB5 := hide hb5
  clear hb5
  go_wp2
  go_ret
  exact ⟨rfl, Went.asked (unhide HH).1 (unhide HH).2 ((belowDrewN (unhide HB) c).trans ((unhide HB5).mono (unhide HB).size))⟩
set_option maxRecDepth 100000 in
set_option maxHeartbeats 2000000 in
theorem asks_each (h : Dk w B D σ) (he : Like σ) (hTb : Tab w) (on wi i j : Int) (s : ByteArray) (hi : i64b i) : Calls Tryd.prog 38 #[.pointer (some ⟨D, 0, none⟩), .agg #[.int .i64 8, .int .i64 on, .int .i64 wi, .int .i64 i, .int .i64 j, .string s]] w fun e w' => e = .returned (.bool true) ∧ Went w w' B D := by
  have HI := hide hi
  have HTb := hide hTb
  have HP0 : Hid (0 < w.heap.size) := World.block_lt_of_cell? _ _ (hTb 0 (by decide))
  clear hi hTb
  have HS1 := hide (fun u => lSeat on u)
  have HS2 := hide (fun u => lSeat wi u)
  have ha := sm_lt on
  have hb := sm_lt wi
  generalize sm on = a at *
  generalize sm wi = b at *
  have hE := En.start h ha hb 8 on wi i j s
  have hbel := (Below.refl w.heap.size w).alloc (Nat.le_refl _) (.cells #[.int .i64 8, .int .i64 on, .int .i64 wi, .int .i64 i, .int .i64 j, .string s] 32)
  have HH := hide (And.intro h he)
  have HD := hide (h.keep hbel)
  have HB := hide hbel
  have ha3 : ((a : Nat) : Int) < 3 := by omega
  have hb3 : ((b : Nat) : Int) < 3 := by omega
  have HAB := hide (And.intro ha hb)
  have hX : w.heap.size < (w.alloc (.cells #[.int .i64 8, .int .i64 on, .int .i64 wi, .int .i64 i, .int .i64 j, .string s] 32)).heap.size := World.block_lt_of_cell? _ _ hE.x0
  have HX := hide hX
  clear h he hbel hX
  go_enter Tryd.func38, Tryd.ntmps38
  go_wp2
  generalize w.alloc (.cells #[.int .i64 8, .int .i64 on, .int .i64 wi, .int .i64 i, .int .i64 j, .string s] 32) = w0 at *
  have HE := hide hE
  have c1 := hE.c1
  have c2 := hE.c2
  have c3 := hE.c3
  have c4 := hE.c4
  have x0 := hE.x0
  have x1 := hE.x1
  have x2 := hE.x2
  have x3 := hE.x3
  have x4 := hE.x4
  clear hE
  go_quiet ((go_at_call 41; exact Calls.quiet_of_same (unhide HS1 _)))
  clear c1 c2 c3 c4 x0 x1 x2 x3 x4
  have hE := (unhide HE).drewN nq
  have HD2 := hide ((unhide HD).drewN nq)
  have HB2 := hide (belowDrewN (unhide HB) nq)
  have HX2 : Hid (w.heap.size < (w0.drewN nq).heap.size) := unhide HX
  clear HE HD HB HX
  generalize w0.drewN nq = w1 at *
  have HD := hide (unhide HD2)
  have HB := hide (unhide HB2)
  have HX := hide (unhide HX2)
  clear HD2 HB2 HX2
  have HE0 := hide hE
  clear hE
  go_wp2
  have hE := unhide HE0
  clear HE0
  have HE := hide hE
  have c1 := hE.c1
  have c2 := hE.c2
  have c3 := hE.c3
  have c4 := hE.c4
  have x0 := hE.x0
  have x1 := hE.x1
  have x2 := hE.x2
  have x3 := hE.x3
  have x4 := hE.x4
  clear hE
  go_quiet ((go_at_call 41; exact Calls.quiet_of_same (unhide HS1 _)))
  clear c1 c2 c3 c4 x0 x1 x2 x3 x4
  have hE := (unhide HE).drewN nq
  have HD2 := hide ((unhide HD).drewN nq)
  have HB2 := hide (belowDrewN (unhide HB) nq)
  have HX2 : Hid (w.heap.size < (w1.drewN nq).heap.size) := unhide HX
  clear HE HD HB HX
  generalize w1.drewN nq = w2 at *
  have HD := hide (unhide HD2)
  have HB := hide (unhide HB2)
  have HX := hide (unhide HX2)
  clear HD2 HB2 HX2
  have HTu := hide ((unhide HTb).below (unhide HB) (unhide HP0))
  have hEl := elsR_len (σ a) (fun s hs => ((unhide HD).ok a (unhide HAB).1 s hs).1.a.le)
  have HA := hide (qGone (unhide HD) (unhide HTu) (unhide HAB).1)
  have HR := hide (fun u hb => rqEach (w := u) ((unhide HD).keep hb) (unhide HH).2 (unhide HAB).1)
  generalize elsR (σ a) = E at *
  obtain ⟨le, hle⟩ : ∃ le, le = E.length := ⟨_, rfl⟩
  rw [← hle] at HA HR
  have HLE := hide (And.intro hle hEl)
  clear hle hEl
  have c1 := hE.c1
  have c2 := hE.c2
  have c3 := hE.c3
  have c4 := hE.c4
  have x0 := hE.x0
  have x1 := hE.x1
  have x2 := hE.x2
  have x3 := hE.x3
  have x4 := hE.x4
  clear hE
  go_wp2_with fail
  refine (unhide HA).mono ?_
  rintro e w5 ⟨⟨b1, cb1, rfl, hl1⟩, hb5⟩
  have HL1 := hide hl1
  have HB5 := hide hb5
  clear hb5 hl1
  go_wp2_with fail
  refine (unhide HR _ (unhide HB5)).mono ?_
  rintro e w6 ⟨⟨b2, cb2, rfl, hl2⟩, hb6⟩
  have HSm := hide (lSameI E E b1 b2 cb1 cb2 w6 (by have := (unhide HLE).2; omega) ((unhide HL1).keep hb6 (Nat.le_refl _)) hl2)
  rw [decide_eq_true rfl, ← (unhide HLE).1] at HSm
  have HB6 := hide hb6
  clear hb6 hl2
  go_wp2_with fail
  refine (unhide HSm).mono ?_
  rintro e wz ⟨rfl, c, rfl⟩
  go_wp2
  go_ret
  exact ⟨rfl, Went.asked (unhide HH).1 (unhide HH).2 (belowDrewN (((unhide HB).trans ((unhide HB5).mono (unhide HB).size)).trans ((unhide HB6).mono (Nat.le_trans (unhide HB).size (unhide HB5).size))) c)⟩
set_option maxRecDepth 100000 in
set_option maxHeartbeats 2000000 in
theorem asks_same (h : Dk w B D σ) (he : Like σ) (hTb : Tab w) (on wi i j : Int) (s : ByteArray) (hi : i64b i) : Calls Tryd.prog 38 #[.pointer (some ⟨D, 0, none⟩), .agg #[.int .i64 15, .int .i64 on, .int .i64 wi, .int .i64 i, .int .i64 j, .string s]] w fun e w' => e = .returned (.bool true) ∧ Went w w' B D := by
  have HI := hide hi
  have HTb := hide hTb
  have HP0 : Hid (0 < w.heap.size) := World.block_lt_of_cell? _ _ (hTb 0 (by decide))
  clear hi hTb
  have HS1 := hide (fun u => lSeat on u)
  have HS2 := hide (fun u => lSeat wi u)
  have ha := sm_lt on
  have hb := sm_lt wi
  generalize sm on = a at *
  generalize sm wi = b at *
  have hE := En.start h ha hb 15 on wi i j s
  have hbel := (Below.refl w.heap.size w).alloc (Nat.le_refl _) (.cells #[.int .i64 15, .int .i64 on, .int .i64 wi, .int .i64 i, .int .i64 j, .string s] 32)
  have HH := hide (And.intro h he)
  have HD := hide (h.keep hbel)
  have HB := hide hbel
  have ha3 : ((a : Nat) : Int) < 3 := by omega
  have hb3 : ((b : Nat) : Int) < 3 := by omega
  have HAB := hide (And.intro ha hb)
  have hX : w.heap.size < (w.alloc (.cells #[.int .i64 15, .int .i64 on, .int .i64 wi, .int .i64 i, .int .i64 j, .string s] 32)).heap.size := World.block_lt_of_cell? _ _ hE.x0
  have HX := hide hX
  clear h he hbel hX
  go_enter Tryd.func38, Tryd.ntmps38
  go_wp2
  generalize w.alloc (.cells #[.int .i64 15, .int .i64 on, .int .i64 wi, .int .i64 i, .int .i64 j, .string s] 32) = w0 at *
  have HE := hide hE
  have c1 := hE.c1
  have c2 := hE.c2
  have c3 := hE.c3
  have c4 := hE.c4
  have x0 := hE.x0
  have x1 := hE.x1
  have x2 := hE.x2
  have x3 := hE.x3
  have x4 := hE.x4
  clear hE
  go_quiet ((go_at_call 41; exact Calls.quiet_of_same (unhide HS1 _)))
  clear c1 c2 c3 c4 x0 x1 x2 x3 x4
  have hE := (unhide HE).drewN nq
  have HD2 := hide ((unhide HD).drewN nq)
  have HB2 := hide (belowDrewN (unhide HB) nq)
  have HX2 : Hid (w.heap.size < (w0.drewN nq).heap.size) := unhide HX
  clear HE HD HB HX
  generalize w0.drewN nq = w1 at *
  have HD := hide (unhide HD2)
  have HB := hide (unhide HB2)
  have HX := hide (unhide HX2)
  clear HD2 HB2 HX2
  have HE0 := hide hE
  clear hE
  go_wp2
  have hE := unhide HE0
  clear HE0
  have HE := hide hE
  have c1 := hE.c1
  have c2 := hE.c2
  have c3 := hE.c3
  have c4 := hE.c4
  have x0 := hE.x0
  have x1 := hE.x1
  have x2 := hE.x2
  have x3 := hE.x3
  have x4 := hE.x4
  clear hE
  go_quiet ((go_at_call 41; exact Calls.quiet_of_same (unhide HS1 _)))
  clear c1 c2 c3 c4 x0 x1 x2 x3 x4
  have hE := (unhide HE).drewN nq
  have HD2 := hide ((unhide HD).drewN nq)
  have HB2 := hide (belowDrewN (unhide HB) nq)
  have HX2 : Hid (w.heap.size < (w1.drewN nq).heap.size) := unhide HX
  clear HE HD HB HX
  generalize w1.drewN nq = w2 at *
  have HD := hide (unhide HD2)
  have HB := hide (unhide HB2)
  have HX := hide (unhide HX2)
  clear HD2 HB2 HX2
  have HTu := hide ((unhide HTb).below (unhide HB) (unhide HP0))
  have HA := hide (fun n => qSame ((unhide HD).drewN n) (unhide HAB).1 (unhide HAB).2)
  have HR := hide (fun n => rqSame ((unhide HD).drewN n) (unhide HH).2 (unhide HAB).1 (unhide HAB).2)
  have c1 := hE.c1
  have c2 := hE.c2
  have c3 := hE.c3
  have c4 := hE.c4
  have x0 := hE.x0
  have x1 := hE.x1
  have x2 := hE.x2
  have x3 := hE.x3
  have x4 := hE.x4
  clear hE
  go_wp2
  go_quiet (first | (go_at_call 41; exact Calls.quiet_of_same (unhide HS2 _)) | (go_at_call 37; exact Calls.quiet_of (unhide HA _)) | (go_at_call 65; exact Calls.quiet_of (unhide HR _)))
  go_wp2
  go_ret
  exact ⟨rfl, Went.asked (unhide HH).1 (unhide HH).2 (belowDrewN (unhide HB) _)⟩
set_option maxRecDepth 100000 in
set_option maxHeartbeats 2000000 in
theorem asks_told (h : Dk w B D σ) (he : Like σ) (hTb : Tab w) (on wi i j : Int) (s : ByteArray) (hi : i64b i) : Calls Tryd.prog 38 #[.pointer (some ⟨D, 0, none⟩), .agg #[.int .i64 16, .int .i64 on, .int .i64 wi, .int .i64 i, .int .i64 j, .string s]] w fun e w' => e = .returned (.bool true) ∧ Went w w' B D := by
  have HI := hide hi
  have HTb := hide hTb
  have HP0 : Hid (0 < w.heap.size) := World.block_lt_of_cell? _ _ (hTb 0 (by decide))
  clear hi hTb
  have HS1 := hide (fun u => lSeat on u)
  have HS2 := hide (fun u => lSeat wi u)
  have ha := sm_lt on
  have hb := sm_lt wi
  generalize sm on = a at *
  generalize sm wi = b at *
  have hE := En.start h ha hb 16 on wi i j s
  have hbel := (Below.refl w.heap.size w).alloc (Nat.le_refl _) (.cells #[.int .i64 16, .int .i64 on, .int .i64 wi, .int .i64 i, .int .i64 j, .string s] 32)
  have HH := hide (And.intro h he)
  have HD := hide (h.keep hbel)
  have HB := hide hbel
  have ha3 : ((a : Nat) : Int) < 3 := by omega
  have hb3 : ((b : Nat) : Int) < 3 := by omega
  have HAB := hide (And.intro ha hb)
  have hX : w.heap.size < (w.alloc (.cells #[.int .i64 16, .int .i64 on, .int .i64 wi, .int .i64 i, .int .i64 j, .string s] 32)).heap.size := World.block_lt_of_cell? _ _ hE.x0
  have HX := hide hX
  clear h he hbel hX
  go_enter Tryd.func38, Tryd.ntmps38
  go_wp2
  generalize w.alloc (.cells #[.int .i64 16, .int .i64 on, .int .i64 wi, .int .i64 i, .int .i64 j, .string s] 32) = w0 at *
  have HE := hide hE
  have c1 := hE.c1
  have c2 := hE.c2
  have c3 := hE.c3
  have c4 := hE.c4
  have x0 := hE.x0
  have x1 := hE.x1
  have x2 := hE.x2
  have x3 := hE.x3
  have x4 := hE.x4
  clear hE
  go_quiet ((go_at_call 41; exact Calls.quiet_of_same (unhide HS1 _)))
  clear c1 c2 c3 c4 x0 x1 x2 x3 x4
  have hE := (unhide HE).drewN nq
  have HD2 := hide ((unhide HD).drewN nq)
  have HB2 := hide (belowDrewN (unhide HB) nq)
  have HX2 : Hid (w.heap.size < (w0.drewN nq).heap.size) := unhide HX
  clear HE HD HB HX
  generalize w0.drewN nq = w1 at *
  have HD := hide (unhide HD2)
  have HB := hide (unhide HB2)
  have HX := hide (unhide HX2)
  clear HD2 HB2 HX2
  have HE0 := hide hE
  clear hE
  go_wp2
  have hE := unhide HE0
  clear HE0
  have HE := hide hE
  have c1 := hE.c1
  have c2 := hE.c2
  have c3 := hE.c3
  have c4 := hE.c4
  have x0 := hE.x0
  have x1 := hE.x1
  have x2 := hE.x2
  have x3 := hE.x3
  have x4 := hE.x4
  clear hE
  go_quiet ((go_at_call 41; exact Calls.quiet_of_same (unhide HS1 _)))
  clear c1 c2 c3 c4 x0 x1 x2 x3 x4
  have hE := (unhide HE).drewN nq
  have HD2 := hide ((unhide HD).drewN nq)
  have HB2 := hide (belowDrewN (unhide HB) nq)
  have HX2 : Hid (w.heap.size < (w1.drewN nq).heap.size) := unhide HX
  clear HE HD HB HX
  generalize w1.drewN nq = w2 at *
  have HD := hide (unhide HD2)
  have HB := hide (unhide HB2)
  have HX := hide (unhide HX2)
  clear HD2 HB2 HX2
  have HTu := hide ((unhide HTb).below (unhide HB) (unhide HP0))
  have c1 := hE.c1
  have c2 := hE.c2
  have c3 := hE.c3
  have c4 := hE.c4
  have x0 := hE.x0
  have x1 := hE.x1
  have x2 := hE.x2
  have x3 := hE.x3
  have x4 := hE.x4
  clear hE
  go_wp2_with fail
  refine (qTold (unhide HD) (unhide HAB).1).mono ?_
  rintro e w5 ⟨rfl, hb5⟩
  have HB5 := hide hb5
  clear hb5
  go_wp2_with fail
  refine (rqTold ((unhide HD).keep (unhide HB5)) (unhide HH).2 (unhide HAB).1).mono ?_
  rintro e w6 ⟨rfl, hb6⟩
  have HB6 := hide hb6
  clear hb6
  go_wp2
  go_ret
  exact ⟨rfl, Went.asked (unhide HH).1 (unhide HH).2 (((unhide HB).trans ((unhide HB5).mono (unhide HB).size)).trans ((unhide HB6).mono (Nat.le_trans (unhide HB).size (unhide HB5).size)))⟩
set_option maxRecDepth 100000 in
set_option maxHeartbeats 2000000 in
theorem asks_len (h : Dk w B D σ) (he : Like σ) (hTb : Tab w) (on wi i j : Int) (s : ByteArray) (hi : i64b i) : Calls Tryd.prog 38 #[.pointer (some ⟨D, 0, none⟩), .agg #[.int .i64 17, .int .i64 on, .int .i64 wi, .int .i64 i, .int .i64 j, .string s]] w fun e w' => e = .returned (.bool true) ∧ Went w w' B D := by
  have HI := hide hi
  have HTb := hide hTb
  have HP0 : Hid (0 < w.heap.size) := World.block_lt_of_cell? _ _ (hTb 0 (by decide))
  clear hi hTb
  have HS1 := hide (fun u => lSeat on u)
  have HS2 := hide (fun u => lSeat wi u)
  have ha := sm_lt on
  have hb := sm_lt wi
  generalize sm on = a at *
  generalize sm wi = b at *
  have hE := En.start h ha hb 17 on wi i j s
  have hbel := (Below.refl w.heap.size w).alloc (Nat.le_refl _) (.cells #[.int .i64 17, .int .i64 on, .int .i64 wi, .int .i64 i, .int .i64 j, .string s] 32)
  have HH := hide (And.intro h he)
  have HD := hide (h.keep hbel)
  have HB := hide hbel
  have ha3 : ((a : Nat) : Int) < 3 := by omega
  have hb3 : ((b : Nat) : Int) < 3 := by omega
  have HAB := hide (And.intro ha hb)
  have hX : w.heap.size < (w.alloc (.cells #[.int .i64 17, .int .i64 on, .int .i64 wi, .int .i64 i, .int .i64 j, .string s] 32)).heap.size := World.block_lt_of_cell? _ _ hE.x0
  have HX := hide hX
  clear h he hbel hX
  go_enter Tryd.func38, Tryd.ntmps38
  go_wp2
  generalize w.alloc (.cells #[.int .i64 17, .int .i64 on, .int .i64 wi, .int .i64 i, .int .i64 j, .string s] 32) = w0 at *
  have HE := hide hE
  have c1 := hE.c1
  have c2 := hE.c2
  have c3 := hE.c3
  have c4 := hE.c4
  have x0 := hE.x0
  have x1 := hE.x1
  have x2 := hE.x2
  have x3 := hE.x3
  have x4 := hE.x4
  clear hE
  go_quiet ((go_at_call 41; exact Calls.quiet_of_same (unhide HS1 _)))
  clear c1 c2 c3 c4 x0 x1 x2 x3 x4
  have hE := (unhide HE).drewN nq
  have HD2 := hide ((unhide HD).drewN nq)
  have HB2 := hide (belowDrewN (unhide HB) nq)
  have HX2 : Hid (w.heap.size < (w0.drewN nq).heap.size) := unhide HX
  clear HE HD HB HX
  generalize w0.drewN nq = w1 at *
  have HD := hide (unhide HD2)
  have HB := hide (unhide HB2)
  have HX := hide (unhide HX2)
  clear HD2 HB2 HX2
  have HE0 := hide hE
  clear hE
  go_wp2
  have hE := unhide HE0
  clear HE0
  have HE := hide hE
  have c1 := hE.c1
  have c2 := hE.c2
  have c3 := hE.c3
  have c4 := hE.c4
  have x0 := hE.x0
  have x1 := hE.x1
  have x2 := hE.x2
  have x3 := hE.x3
  have x4 := hE.x4
  clear hE
  go_quiet ((go_at_call 41; exact Calls.quiet_of_same (unhide HS1 _)))
  clear c1 c2 c3 c4 x0 x1 x2 x3 x4
  have hE := (unhide HE).drewN nq
  have HD2 := hide ((unhide HD).drewN nq)
  have HB2 := hide (belowDrewN (unhide HB) nq)
  have HX2 : Hid (w.heap.size < (w1.drewN nq).heap.size) := unhide HX
  clear HE HD HB HX
  generalize w1.drewN nq = w2 at *
  have HD := hide (unhide HD2)
  have HB := hide (unhide HB2)
  have HX := hide (unhide HX2)
  clear HD2 HB2 HX2
  have HTu := hide ((unhide HTb).below (unhide HB) (unhide HP0))
  have c1 := hE.c1
  have c2 := hE.c2
  have c3 := hE.c3
  have c4 := hE.c4
  have x0 := hE.x0
  have x1 := hE.x1
  have x2 := hE.x2
  have x3 := hE.x3
  have x4 := hE.x4
  clear hE
  go_wp2_with fail
  refine (qLen (unhide HD) (unhide HAB).1).mono ?_
  rintro e wz ⟨rfl, hw⟩
  obtain rfl := hw.symm
  clear hw
  go_wp2_with fail
  refine (rqLen (unhide HD) (unhide HH).2 (unhide HAB).1).mono ?_
  rintro e wz ⟨rfl, hw⟩
  obtain rfl := hw.symm
  clear hw
  go_wp2
  go_ret
  exact ⟨rfl, Went.asked (unhide HH).1 (unhide HH).2 (unhide HB)⟩
end
end Go.Proofs.YtloealcaagfehaaDoor
