/- makes: a set is laid in a seat, on both sides alike. -/
import Derived.Test.YtloealcaagfehaaDoorDx
namespace Go.Proofs.YtloealcaagfehaaDoor
open Go.RowKit

theorem cell_setCell_ne {u : World} {g k k' : Nat} {cs : Array Value} {t : TypeId} {fr : Nat × Nat} (hg : u.heap[g]? = some (.cells cs t fr)) (v : Value) (h : k ≠ k') : (u.setCell ⟨g, k, none⟩ v).cell? ⟨g, k', none⟩ = u.cell? ⟨g, k', none⟩ := by
  rw [cellOf (heapCell_same hg k v), cellOf hg, Array.getElem?_setIfInBounds_ne h]
section
variable {w : World} {B D : Nat} {σ : Nat → Option Sq}
theorem En.below {u u' : World} {X a b : Nat} {kind on wi i j : Int} {s : ByteArray} (h : En u D X a b σ kind on wi i j s) (hb : Below u.heap.size u u') (hD : D < u.heap.size) (hX : X < u.heap.size) : En u' D X a b σ kind on wi i j s :=
  ⟨(hb.cell (p := ⟨D, a, none⟩) hD).trans h.c1, (hb.cell (p := ⟨D, 3 + a, none⟩) hD).trans h.c2, (hb.cell (p := ⟨D, b, none⟩) hD).trans h.c3, (hb.cell (p := ⟨D, 3 + b, none⟩) hD).trans h.c4,
    (hb.cell (p := ⟨X, 0, none⟩) hX).trans h.x0, (hb.cell (p := ⟨X, 1, none⟩) hX).trans h.x1, (hb.cell (p := ⟨X, 2, none⟩) hX).trans h.x2, (hb.cell (p := ⟨X, 3, none⟩) hX).trans h.x3, (hb.cell (p := ⟨X, 4, none⟩) hX).trans h.x4, (hb.cell (p := ⟨X, 5, none⟩) hX).trans h.x5⟩
theorem Went.made {w1 : World} {k : Nat} (h : Dk w B D σ) (he : Like σ) (hb : Below w.heap.size w w1) (hk : k < 3) (τ : Option Sq) (hτ : ∀ t, τ = some t → t.Ok w1 ∧ (∀ x, t.has x → w.heap.size ≤ x) ∧ t.T = t.S) :
    Went w ((w1.setCell ⟨D, k, none⟩ (ownV τ)).setCell ⟨D, 3 + k, none⟩ (refV τ)) B D := by
  refine ⟨updS σ k τ, h.make hb hk τ (fun t ht => ⟨(hτ t ht).1, (hτ t ht).2.1⟩), fun i s hs => ?_, belowCell (belowCell (hb.mono (Nat.le_trans h.ge (Nat.le_of_lt h.dlt))) h.ge _) h.ge _⟩
  by_cases e : i = k
  · subst e; rw [updS_same] at hs; exact (hτ s hs).2.2
  · rw [updS_other _ _ _ _ e] at hs; exact he i s hs
/-- both sides were made, one behind the other -/
theorem Sq.made {u u1 u2 : World} {p q p' q' n S : Nat} (hw : w.heap.size ≤ u.heap.size) (hp : u.heap.size ≤ p) (hq : u.heap.size ≤ q) (hm : Bm u1 p q n S) (hp' : u1.heap.size ≤ p') (hq' : u1.heap.size ≤ q') (hb : Below u1.heap.size u1 u2) (hr : Rn u2 p' q' n S) (hl : q' < u2.heap.size) :
    ∀ t, some (Sq.mk p q p' q' n S S) = some t → t.Ok u2 ∧ (∀ x, t.has x → w.heap.size ≤ x) ∧ t.T = t.S := by
  intro t ht
  injection ht with ht
  subst ht
  have h1 := hm.plt
  have h2 := hm.qlt
  refine ⟨⟨hm.below hb, hr, hl, ?_, ?_, ?_, ?_⟩, fun x hx => ?_, rfl⟩
  · show p ≠ p'; omega
  · show p ≠ q'; omega
  · show q ≠ p'; omega
  · show q ≠ q'; omega
  · rcases hx with hx | hx | hx | hx <;> (simp only at hx; omega)
set_option maxRecDepth 100000 in
set_option maxHeartbeats 4000000 in
theorem makes_new_bad (h : Dk w B D σ) (he : Like σ) (on wi i j : Int) (s : ByteArray) (hx : i < 0 ∨ 65536 < i) : Calls Tryd.prog 16 #[.pointer (some ⟨D, 0, none⟩), .agg #[.int .i64 1, .int .i64 on, .int .i64 wi, .int .i64 i, .int .i64 j, .string s]] w fun e w' => e = .returned (.bool true) ∧ Went w w' B D := by
  have HA := hide (fun u => bNewBad i hx u)
  have HR := hide (fun u => rNewBad i hx u)
  clear hx
  have HS1 := hide (fun u => lSeat on u)
  have HS2 := hide (fun u => lSeat wi u)
  have ha := sm_lt on
  have hb := sm_lt wi
  generalize sm on = a at *
  generalize sm wi = b at *
  have hE := En.start h ha hb 1 on wi i j s
  have hbel := (Below.refl w.heap.size w).alloc (Nat.le_refl _) (.cells #[.int .i64 1, .int .i64 on, .int .i64 wi, .int .i64 i, .int .i64 j, .string s] 32)
  have HH := hide (And.intro h he)
  have HD := hide (h.keep hbel)
  have HB := hide hbel
  have ha3 : ((a : Nat) : Int) < 3 := by omega
  have hb3 : ((b : Nat) : Int) < 3 := by omega
  have HAB := hide (And.intro ha hb)
  have hX : w.heap.size < (w.alloc (.cells #[.int .i64 1, .int .i64 on, .int .i64 wi, .int .i64 i, .int .i64 j, .string s] 32)).heap.size := World.block_lt_of_cell? _ _ hE.x0
  have HX := hide hX
  clear h he hbel hX
  go_enter Tryd.func16, Tryd.ntmps16
  go_wp2_with fail
  generalize w.alloc (.cells #[.int .i64 1, .int .i64 on, .int .i64 wi, .int .i64 i, .int .i64 j, .string s] 32) = w0 at *
  refine (unhide HS1 _).mono ?_
  rintro e wz ⟨rfl, hw⟩
  obtain rfl := hw.symm
  clear hw
  have c1 := hE.c1
  have c2 := hE.c2
  have c3 := hE.c3
  have c4 := hE.c4
  have x0 := hE.x0
  have x1 := hE.x1
  have x2 := hE.x2
  have x3 := hE.x3
  have x4 := hE.x4
  have x5 := hE.x5
  have HE := hide hE
  clear hE
  go_wp2_with fail
  refine (unhide HA _).mono ?_
  rintro e wz ⟨rfl, hw⟩
  obtain rfl := hw.symm
  clear hw
  go_wp2_with fail
  refine (unhide HR _).mono ?_
  rintro e wz ⟨rfl, hw⟩
  obtain rfl := hw.symm
  clear hw
  go_wp2
  go_ret
  exact ⟨rfl, Went.asked (unhide HH).1 (unhide HH).2 (unhide HB)⟩
set_option maxRecDepth 100000 in
set_option maxHeartbeats 4000000 in
theorem makes_new (h : Dk w B D σ) (he : Like σ) (on wi  j : Int) (s : ByteArray) (n : Nat) (hn : n ≤ 65536) : Calls Tryd.prog 16 #[.pointer (some ⟨D, 0, none⟩), .agg #[.int .i64 1, .int .i64 on, .int .i64 wi, .int .i64 (n : Int), .int .i64 j, .string s]] w fun e w' => e = .returned (.bool true) ∧ Went w w' B D := by
  have HA := hide (fun u => bNew n hn u)
  have HR := hide (fun u => rNew n hn u)
  clear hn
  have HS1 := hide (fun u => lSeat on u)
  have HS2 := hide (fun u => lSeat wi u)
  have ha := sm_lt on
  have hb := sm_lt wi
  generalize sm on = a at *
  generalize sm wi = b at *
  have hE := En.start h ha hb 1 on wi (n : Int) j s
  have hbel := (Below.refl w.heap.size w).alloc (Nat.le_refl _) (.cells #[.int .i64 1, .int .i64 on, .int .i64 wi, .int .i64 (n : Int), .int .i64 j, .string s] 32)
  have HH := hide (And.intro h he)
  have HD := hide (h.keep hbel)
  have HB := hide hbel
  have ha3 : ((a : Nat) : Int) < 3 := by omega
  have hb3 : ((b : Nat) : Int) < 3 := by omega
  have HAB := hide (And.intro ha hb)
  have hX : w.heap.size < (w.alloc (.cells #[.int .i64 1, .int .i64 on, .int .i64 wi, .int .i64 (n : Int), .int .i64 j, .string s] 32)).heap.size := World.block_lt_of_cell? _ _ hE.x0
  have HX := hide hX
  clear h he hbel hX
  go_enter Tryd.func16, Tryd.ntmps16
  go_wp2_with fail
  generalize w.alloc (.cells #[.int .i64 1, .int .i64 on, .int .i64 wi, .int .i64 (n : Int), .int .i64 j, .string s] 32) = w0 at *
  refine (unhide HS1 _).mono ?_
  rintro e wz ⟨rfl, hw⟩
  obtain rfl := hw.symm
  clear hw
  have c1 := hE.c1
  have c2 := hE.c2
  have c3 := hE.c3
  have c4 := hE.c4
  have x0 := hE.x0
  have x1 := hE.x1
  have x2 := hE.x2
  have x3 := hE.x3
  have x4 := hE.x4
  have x5 := hE.x5
  have HE := hide hE
  clear hE
  go_wp2_with fail
  refine (unhide HA _).mono ?_
  rintro e w5 ⟨pa, qa, rfl, hpa, hqa, hma, hb5⟩
  have hwb := (unhide HB).size
  have HM := hide (And.intro hwb (And.intro hpa (And.intro hqa hma)))
  clear hwb hpa hqa hma
  have hE := (unhide HE).below hb5 (unhide HD).dlt (unhide HX)
  clear c1 c2 c3 c4 x0 x1 x2 x3 x4 x5
  have HD5 := hide ((unhide HD).keep hb5)
  have HB5 := hide ((unhide HB).trans (hb5.mono (unhide HB).size))
  have HX5 : Hid (w.heap.size < w5.heap.size) := Nat.lt_of_lt_of_le (unhide HX) hb5.size
  clear HE HD HB HX
  have HD := hide (unhide HD5)
  have HB := hide (unhide HB5)
  have HX := hide (unhide HX5)
  clear HD5 HB5 HX5
  have c1 := hE.c1
  have c2 := hE.c2
  have c3 := hE.c3
  have c4 := hE.c4
  have x0 := hE.x0
  have x1 := hE.x1
  have x2 := hE.x2
  have x3 := hE.x3
  have x4 := hE.x4
  have x5 := hE.x5
  have HE := hide hE
  clear hE
  clear hb5
  go_wp2_with fail
  refine (unhide HR _).mono ?_
  rintro e w6 ⟨pb, qb, rfl, hpb, hqb, hmb0, hb6⟩
  have hlb := hmb0.qlt
  have hmb : Rn w6 pb qb n 0 := .inl hmb0
  clear hmb0
  have HR9 := hide (Sq.made (unhide HM).1 (unhide HM).2.1 (unhide HM).2.2.1 (unhide HM).2.2.2 hpb hqb hb6 hmb hlb)
  have hE := (unhide HE).below hb6 (unhide HD).dlt (unhide HX)
  clear c1 c2 c3 c4 x0 x1 x2 x3 x4 x5
  have HD6 := hide ((unhide HD).keep hb6)
  have HB6 := hide ((unhide HB).trans (hb6.mono (unhide HB).size))
  have HX6 : Hid (w.heap.size < w6.heap.size) := Nat.lt_of_lt_of_le (unhide HX) hb6.size
  clear HE HD HB HX
  have HD := hide (unhide HD6)
  have HB := hide (unhide HB6)
  have HX := hide (unhide HX6)
  clear HD6 HB6 HX6
  have c1 := hE.c1
  have c2 := hE.c2
  have c3 := hE.c3
  have c4 := hE.c4
  have x0 := hE.x0
  have x1 := hE.x1
  have x2 := hE.x2
  have x3 := hE.x3
  have x4 := hE.x4
  have x5 := hE.x5
  have HE := hide hE
  clear hE
  clear hb6 hpb hqb hmb hlb
  have q1 : w6.frozen? ⟨D, a, none⟩ = false := (unhide HD).fz a
  have q2 : (w6.setCell ⟨D, a, none⟩ (.pointer (some ⟨pa, 0, none⟩))).frozen? ⟨D, 3 + a, none⟩ = false := by have := heapCell_same (unhide HD).d a (.pointer (some ⟨pa, 0, none⟩)); simp only [World.frozen?, this]; rfl
  have q3 : (w6.setCell ⟨D, a, none⟩ (.pointer (some ⟨pa, 0, none⟩))).cell? ⟨D, 3 + a, none⟩ = some (refV (σ a)) := by rw [← c2]; exact cell_setCell_ne (unhide HD).d _ (by omega)
  go_wp2
  go_ret
  exact ⟨rfl, Went.made (unhide HH).1 (unhide HH).2 (unhide HB) (unhide HAB).1 (some (Sq.mk pa qa pb qb n 0 0)) (unhide HR9)⟩
set_option maxRecDepth 100000 in
set_option maxHeartbeats 4000000 in
theorem makes_from_arg (h : Dk w B D σ) (he : Like σ) (on wi i j : Int) (s : ByteArray) (hx : i < 0 ∨ 65536 < i) : Calls Tryd.prog 16 #[.pointer (some ⟨D, 0, none⟩), .agg #[.int .i64 2, .int .i64 on, .int .i64 wi, .int .i64 i, .int .i64 j, .string s]] w fun e w' => e = .returned (.bool true) ∧ Went w w' B D := by
  have HA := hide (fun u => bFromArg i hx s u)
  have HR := hide (fun u => rFromArg i hx s u)
  clear hx
  have HS1 := hide (fun u => lSeat on u)
  have HS2 := hide (fun u => lSeat wi u)
  have ha := sm_lt on
  have hb := sm_lt wi
  generalize sm on = a at *
  generalize sm wi = b at *
  have hE := En.start h ha hb 2 on wi i j s
  have hbel := (Below.refl w.heap.size w).alloc (Nat.le_refl _) (.cells #[.int .i64 2, .int .i64 on, .int .i64 wi, .int .i64 i, .int .i64 j, .string s] 32)
  have HH := hide (And.intro h he)
  have HD := hide (h.keep hbel)
  have HB := hide hbel
  have ha3 : ((a : Nat) : Int) < 3 := by omega
  have hb3 : ((b : Nat) : Int) < 3 := by omega
  have HAB := hide (And.intro ha hb)
  have hX : w.heap.size < (w.alloc (.cells #[.int .i64 2, .int .i64 on, .int .i64 wi, .int .i64 i, .int .i64 j, .string s] 32)).heap.size := World.block_lt_of_cell? _ _ hE.x0
  have HX := hide hX
  clear h he hbel hX
  go_enter Tryd.func16, Tryd.ntmps16
  go_wp2_with fail
  generalize w.alloc (.cells #[.int .i64 2, .int .i64 on, .int .i64 wi, .int .i64 i, .int .i64 j, .string s] 32) = w0 at *
  refine (unhide HS1 _).mono ?_
  rintro e wz ⟨rfl, hw⟩
  obtain rfl := hw.symm
  clear hw
  have c1 := hE.c1
  have c2 := hE.c2
  have c3 := hE.c3
  have c4 := hE.c4
  have x0 := hE.x0
  have x1 := hE.x1
  have x2 := hE.x2
  have x3 := hE.x3
  have x4 := hE.x4
  have x5 := hE.x5
  have HE := hide hE
  clear hE
  go_wp2_with fail
  refine (unhide HA _).mono ?_
  rintro e wz ⟨rfl, hw⟩
  obtain rfl := hw.symm
  clear hw
  go_wp2_with fail
  refine (unhide HR _).mono ?_
  rintro e wz ⟨rfl, hw⟩
  obtain rfl := hw.symm
  clear hw
  go_wp2
  go_ret
  exact ⟨rfl, Went.asked (unhide HH).1 (unhide HH).2 (unhide HB)⟩
set_option maxRecDepth 100000 in
set_option maxHeartbeats 4000000 in
theorem makes_from (h : Dk w B D σ) (he : Like σ) (on wi  j : Int) (s : ByteArray) (n : Nat) (hn : n ≤ 65536) (hs : s.size ≤ 9223372036854775807) (hg : Bit.Good s.data.toList n) : Calls Tryd.prog 16 #[.pointer (some ⟨D, 0, none⟩), .agg #[.int .i64 2, .int .i64 on, .int .i64 wi, .int .i64 (n : Int), .int .i64 j, .string s]] w fun e w' => e = .returned (.bool true) ∧ Went w w' B D := by
  have HG := hide hg
  have HA := hide (fun u => bFrom n hn s (by have : s.data.toList.length = s.size := Array.length_toList; rw [← this]; exact hg.1) hg.2 u)
  have HR := hide (fun u => rFrom n hn s hs u)
  generalize Bit.num s.data.toList = N at *
  clear hn hg hs
  have HS1 := hide (fun u => lSeat on u)
  have HS2 := hide (fun u => lSeat wi u)
  have ha := sm_lt on
  have hb := sm_lt wi
  generalize sm on = a at *
  generalize sm wi = b at *
  have hE := En.start h ha hb 2 on wi (n : Int) j s
  have hbel := (Below.refl w.heap.size w).alloc (Nat.le_refl _) (.cells #[.int .i64 2, .int .i64 on, .int .i64 wi, .int .i64 (n : Int), .int .i64 j, .string s] 32)
  have HH := hide (And.intro h he)
  have HD := hide (h.keep hbel)
  have HB := hide hbel
  have ha3 : ((a : Nat) : Int) < 3 := by omega
  have hb3 : ((b : Nat) : Int) < 3 := by omega
  have HAB := hide (And.intro ha hb)
  have hX : w.heap.size < (w.alloc (.cells #[.int .i64 2, .int .i64 on, .int .i64 wi, .int .i64 (n : Int), .int .i64 j, .string s] 32)).heap.size := World.block_lt_of_cell? _ _ hE.x0
  have HX := hide hX
  clear h he hbel hX
  go_enter Tryd.func16, Tryd.ntmps16
  go_wp2_with fail
  generalize w.alloc (.cells #[.int .i64 2, .int .i64 on, .int .i64 wi, .int .i64 (n : Int), .int .i64 j, .string s] 32) = w0 at *
  refine (unhide HS1 _).mono ?_
  rintro e wz ⟨rfl, hw⟩
  obtain rfl := hw.symm
  clear hw
  have c1 := hE.c1
  have c2 := hE.c2
  have c3 := hE.c3
  have c4 := hE.c4
  have x0 := hE.x0
  have x1 := hE.x1
  have x2 := hE.x2
  have x3 := hE.x3
  have x4 := hE.x4
  have x5 := hE.x5
  have HE := hide hE
  clear hE
  go_wp2_with fail
  refine (unhide HA _).mono ?_
  rintro e w5 ⟨pa, qa, rfl, hpa, hqa, hma, hb5⟩
  have hwb := (unhide HB).size
  have HM := hide (And.intro hwb (And.intro hpa (And.intro hqa hma)))
  clear hwb hpa hqa hma
  have hE := (unhide HE).below hb5 (unhide HD).dlt (unhide HX)
  clear c1 c2 c3 c4 x0 x1 x2 x3 x4 x5
  have HD5 := hide ((unhide HD).keep hb5)
  have HB5 := hide ((unhide HB).trans (hb5.mono (unhide HB).size))
  have HX5 : Hid (w.heap.size < w5.heap.size) := Nat.lt_of_lt_of_le (unhide HX) hb5.size
  clear HE HD HB HX
  have HD := hide (unhide HD5)
  have HB := hide (unhide HB5)
  have HX := hide (unhide HX5)
  clear HD5 HB5 HX5
  have c1 := hE.c1
  have c2 := hE.c2
  have c3 := hE.c3
  have c4 := hE.c4
  have x0 := hE.x0
  have x1 := hE.x1
  have x2 := hE.x2
  have x3 := hE.x3
  have x4 := hE.x4
  have x5 := hE.x5
  have HE := hide hE
  clear hE
  clear hb5
  go_wp2_with fail
  refine (unhide HR _).mono ?_
  rintro e w6 ⟨hb6, ⟨_, pb, qb, rfl, hpb, hqb, hmb0⟩ | ⟨hbad, _⟩⟩
  rotate_left
  · exact absurd (unhide HG) hbad
  have hlb := hmb0.qlt
  have hmb : Rn w6 pb qb n N := .inl hmb0
  clear hmb0
  have HR9 := hide (Sq.made (unhide HM).1 (unhide HM).2.1 (unhide HM).2.2.1 (unhide HM).2.2.2 hpb hqb hb6 hmb hlb)
  have hE := (unhide HE).below hb6 (unhide HD).dlt (unhide HX)
  clear c1 c2 c3 c4 x0 x1 x2 x3 x4 x5
  have HD6 := hide ((unhide HD).keep hb6)
  have HB6 := hide ((unhide HB).trans (hb6.mono (unhide HB).size))
  have HX6 : Hid (w.heap.size < w6.heap.size) := Nat.lt_of_lt_of_le (unhide HX) hb6.size
  clear HE HD HB HX
  have HD := hide (unhide HD6)
  have HB := hide (unhide HB6)
  have HX := hide (unhide HX6)
  clear HD6 HB6 HX6
  have c1 := hE.c1
  have c2 := hE.c2
  have c3 := hE.c3
  have c4 := hE.c4
  have x0 := hE.x0
  have x1 := hE.x1
  have x2 := hE.x2
  have x3 := hE.x3
  have x4 := hE.x4
  have x5 := hE.x5
  have HE := hide hE
  clear hE
  clear hb6 hpb hqb hmb hlb
  have q1 : w6.frozen? ⟨D, a, none⟩ = false := (unhide HD).fz a
  have q2 : (w6.setCell ⟨D, a, none⟩ (.pointer (some ⟨pa, 0, none⟩))).frozen? ⟨D, 3 + a, none⟩ = false := by have := heapCell_same (unhide HD).d a (.pointer (some ⟨pa, 0, none⟩)); simp only [World.frozen?, this]; rfl
  have q3 : (w6.setCell ⟨D, a, none⟩ (.pointer (some ⟨pa, 0, none⟩))).cell? ⟨D, 3 + a, none⟩ = some (refV (σ a)) := by rw [← c2]; exact cell_setCell_ne (unhide HD).d _ (by omega)
  go_wp2
  go_ret
  exact ⟨rfl, Went.made (unhide HH).1 (unhide HH).2 (unhide HB) (unhide HAB).1 (some (Sq.mk pa qa pb qb n N N)) (unhide HR9)⟩
set_option maxRecDepth 100000 in
set_option maxHeartbeats 4000000 in
theorem makes_from_bad (h : Dk w B D σ) (he : Like σ) (on wi  j : Int) (s : ByteArray) (n : Nat) (hn : n ≤ 65536) (hs : s.size ≤ 9223372036854775807) (hg : ¬ Bit.Good s.data.toList n) : Calls Tryd.prog 16 #[.pointer (some ⟨D, 0, none⟩), .agg #[.int .i64 2, .int .i64 on, .int .i64 wi, .int .i64 (n : Int), .int .i64 j, .string s]] w fun e w' => e = .returned (.bool true) ∧ Went w w' B D := by
  have HG := hide hg
  have HA : Hid (∀ u, Calls Tryd.prog 18 #[.int .i64 (n : Int), .string s] u fun e w' => e = .returned (.tuple #[.pointer none, .int .i64 4]) ∧ Below u.heap.size u w') := fun u => by
    have hsl : s.data.toList.length = s.size := Array.length_toList
    by_cases h1 : s.size = (n + 7) / 8
    · exact bFromOver n hn s h1 (fun h => hg ⟨by rw [hsl]; exact h1, h⟩) u
    · exact bFromBad n hn s h1 u
  have HR := hide (fun u => rFrom n hn s hs u)
  generalize Bit.num s.data.toList = N at *
  clear hn hg hs
  have HS1 := hide (fun u => lSeat on u)
  have HS2 := hide (fun u => lSeat wi u)
  have ha := sm_lt on
  have hb := sm_lt wi
  generalize sm on = a at *
  generalize sm wi = b at *
  have hE := En.start h ha hb 2 on wi (n : Int) j s
  have hbel := (Below.refl w.heap.size w).alloc (Nat.le_refl _) (.cells #[.int .i64 2, .int .i64 on, .int .i64 wi, .int .i64 (n : Int), .int .i64 j, .string s] 32)
  have HH := hide (And.intro h he)
  have HD := hide (h.keep hbel)
  have HB := hide hbel
  have ha3 : ((a : Nat) : Int) < 3 := by omega
  have hb3 : ((b : Nat) : Int) < 3 := by omega
  have HAB := hide (And.intro ha hb)
  have hX : w.heap.size < (w.alloc (.cells #[.int .i64 2, .int .i64 on, .int .i64 wi, .int .i64 (n : Int), .int .i64 j, .string s] 32)).heap.size := World.block_lt_of_cell? _ _ hE.x0
  have HX := hide hX
  clear h he hbel hX
  go_enter Tryd.func16, Tryd.ntmps16
  go_wp2_with fail
  generalize w.alloc (.cells #[.int .i64 2, .int .i64 on, .int .i64 wi, .int .i64 (n : Int), .int .i64 j, .string s] 32) = w0 at *
  refine (unhide HS1 _).mono ?_
  rintro e wz ⟨rfl, hw⟩
  obtain rfl := hw.symm
  clear hw
  have c1 := hE.c1
  have c2 := hE.c2
  have c3 := hE.c3
  have c4 := hE.c4
  have x0 := hE.x0
  have x1 := hE.x1
  have x2 := hE.x2
  have x3 := hE.x3
  have x4 := hE.x4
  have x5 := hE.x5
  have HE := hide hE
  clear hE
  go_wp2_with fail
  refine (unhide HA _).mono ?_
  rintro e w5 ⟨rfl, hb5⟩
  have hE := (unhide HE).below hb5 (unhide HD).dlt (unhide HX)
  clear c1 c2 c3 c4 x0 x1 x2 x3 x4 x5
  have HD5 := hide ((unhide HD).keep hb5)
  have HB5 := hide ((unhide HB).trans (hb5.mono (unhide HB).size))
  have HX5 : Hid (w.heap.size < w5.heap.size) := Nat.lt_of_lt_of_le (unhide HX) hb5.size
  clear HE HD HB HX
  have HD := hide (unhide HD5)
  have HB := hide (unhide HB5)
  have HX := hide (unhide HX5)
  clear HD5 HB5 HX5
  have c1 := hE.c1
  have c2 := hE.c2
  have c3 := hE.c3
  have c4 := hE.c4
  have x0 := hE.x0
  have x1 := hE.x1
  have x2 := hE.x2
  have x3 := hE.x3
  have x4 := hE.x4
  have x5 := hE.x5
  have HE := hide hE
  clear hE
  clear hb5
  go_wp2_with fail
  refine (unhide HR _).mono ?_
  rintro e w6 ⟨hb6, ⟨hg, _⟩ | ⟨_, rfl⟩⟩
  · exact absurd hg (unhide HG)
  have hE := (unhide HE).below hb6 (unhide HD).dlt (unhide HX)
  clear c1 c2 c3 c4 x0 x1 x2 x3 x4 x5
  have HD6 := hide ((unhide HD).keep hb6)
  have HB6 := hide ((unhide HB).trans (hb6.mono (unhide HB).size))
  have HX6 : Hid (w.heap.size < w6.heap.size) := Nat.lt_of_lt_of_le (unhide HX) hb6.size
  clear HE HD HB HX
  have HD := hide (unhide HD6)
  have HB := hide (unhide HB6)
  have HX := hide (unhide HX6)
  clear HD6 HB6 HX6
  have c1 := hE.c1
  have c2 := hE.c2
  have c3 := hE.c3
  have c4 := hE.c4
  have x0 := hE.x0
  have x1 := hE.x1
  have x2 := hE.x2
  have x3 := hE.x3
  have x4 := hE.x4
  have x5 := hE.x5
  have HE := hide hE
  clear hE
  clear hb6
  go_wp2
  go_ret
  exact ⟨rfl, Went.asked (unhide HH).1 (unhide HH).2 (unhide HB)⟩
set_option maxRecDepth 100000 in
set_option maxHeartbeats 4000000 in
theorem makes_copy_nil (h : Dk w B D σ) (he : Like σ) (on wi i j : Int) (s : ByteArray) (hbn : σ (sm wi) = none) : Calls Tryd.prog 16 #[.pointer (some ⟨D, 0, none⟩), .agg #[.int .i64 14, .int .i64 on, .int .i64 wi, .int .i64 i, .int .i64 j, .string s]] w fun e w' => e = .returned (.bool true) ∧ Went w w' B D := by
  have HS1 := hide (fun u => lSeat on u)
  have HS2 := hide (fun u => lSeat wi u)
  have ha := sm_lt on
  have hb := sm_lt wi
  generalize sm on = a at *
  generalize sm wi = b at *
  have hE := En.start h ha hb 14 on wi i j s
  have hbel := (Below.refl w.heap.size w).alloc (Nat.le_refl _) (.cells #[.int .i64 14, .int .i64 on, .int .i64 wi, .int .i64 i, .int .i64 j, .string s] 32)
  have HH := hide (And.intro h he)
  have HD := hide (h.keep hbel)
  have HB := hide hbel
  have ha3 : ((a : Nat) : Int) < 3 := by omega
  have hb3 : ((b : Nat) : Int) < 3 := by omega
  have HAB := hide (And.intro ha hb)
  have hX : w.heap.size < (w.alloc (.cells #[.int .i64 14, .int .i64 on, .int .i64 wi, .int .i64 i, .int .i64 j, .string s] 32)).heap.size := World.block_lt_of_cell? _ _ hE.x0
  have HX := hide hX
  clear h he hbel hX
  go_enter Tryd.func16, Tryd.ntmps16
  go_wp2_with fail
  generalize w.alloc (.cells #[.int .i64 14, .int .i64 on, .int .i64 wi, .int .i64 i, .int .i64 j, .string s] 32) = w0 at *
  refine (unhide HS1 _).mono ?_
  rintro e wz ⟨rfl, hw⟩
  obtain rfl := hw.symm
  clear hw
  have c1 := hE.c1
  have c2 := hE.c2
  have c3 := hE.c3
  have c4 := hE.c4
  have x0 := hE.x0
  have x1 := hE.x1
  have x2 := hE.x2
  have x3 := hE.x3
  have x4 := hE.x4
  have x5 := hE.x5
  have HE := hide hE
  clear hE
  have HN := hide hbn
  clear hbn
  have c3b : w0.cell? ⟨D, b, none⟩ = some (.pointer none) := by rw [c3, unhide HN]; rfl
  have c4b : w0.cell? ⟨D, 3 + b, none⟩ = some (.pointer none) := by rw [c4, unhide HN]; rfl
  clear c3 c4
  have c3 := c3b
  have c4 := c4b
  go_wp2
  go_quiet (first | (go_at_call 41; exact Calls.quiet_of_same (unhide HS2 _)) | (go_at_call 36; exact Calls.quiet_of_same (bCopyNil _)))
  have hE := (unhide HE).drewN nq
  clear c1 c2 c3 c4 x0 x1 x2 x3 x4 x5
  clear c3b c4b HE
  have HD2 := hide ((unhide HD).drewN nq)
  have HB2 := hide (belowDrewN (unhide HB) nq)
  have HX2 : Hid (w.heap.size < (w0.drewN nq).heap.size) := unhide HX
  clear HD HB HX
  generalize w0.drewN nq = w5 at *
  have HD := hide (unhide HD2)
  have HB := hide (unhide HB2)
  have HX := hide (unhide HX2)
  clear HD2 HB2 HX2
  have c1 := hE.c1
  have c2 := hE.c2
  have c3 := hE.c3
  have c4 := hE.c4
  have x0 := hE.x0
  have x1 := hE.x1
  have x2 := hE.x2
  have x3 := hE.x3
  have x4 := hE.x4
  have x5 := hE.x5
  have HE := hide hE
  clear hE
  have c3b : w5.cell? ⟨D, b, none⟩ = some (.pointer none) := by rw [c3, unhide HN]; rfl
  have c4b : w5.cell? ⟨D, 3 + b, none⟩ = some (.pointer none) := by rw [c4, unhide HN]; rfl
  clear c3 c4
  have c3 := c3b
  have c4 := c4b
  go_wp2
  go_quiet (first | (go_at_call 41; exact Calls.quiet_of_same (unhide HS2 _)) | (go_at_call 43; exact Calls.quiet_of_same (rCopyNil _)))
  have hE := (unhide HE).drewN nq
  clear c1 c2 c3 c4 x0 x1 x2 x3 x4 x5
  clear c3b c4b HE
  have HD2 := hide ((unhide HD).drewN nq)
  have HB2 := hide (belowDrewN (unhide HB) nq)
  have HX2 : Hid (w.heap.size < (w5.drewN nq).heap.size) := unhide HX
  clear HD HB HX
  generalize w5.drewN nq = w6 at *
  have HD := hide (unhide HD2)
  have HB := hide (unhide HB2)
  have HX := hide (unhide HX2)
  clear HD2 HB2 HX2
  have c1 := hE.c1
  have c2 := hE.c2
  have c3 := hE.c3
  have c4 := hE.c4
  have x0 := hE.x0
  have x1 := hE.x1
  have x2 := hE.x2
  have x3 := hE.x3
  have x4 := hE.x4
  have x5 := hE.x5
  have HE := hide hE
  clear hE
  have c3b : w6.cell? ⟨D, b, none⟩ = some (.pointer none) := by rw [c3, unhide HN]; rfl
  have c4b : w6.cell? ⟨D, 3 + b, none⟩ = some (.pointer none) := by rw [c4, unhide HN]; rfl
  clear c3 c4
  have c3 := c3b
  have c4 := c4b
  clear c3 c4 c3b c4b
  have q1 : w6.frozen? ⟨D, a, none⟩ = false := (unhide HD).fz a
  have q2 : (w6.setCell ⟨D, a, none⟩ (.pointer none)).frozen? ⟨D, 3 + a, none⟩ = false := by have := heapCell_same (unhide HD).d a (.pointer none); simp only [World.frozen?, this]; rfl
  have q3 : (w6.setCell ⟨D, a, none⟩ (.pointer none)).cell? ⟨D, 3 + a, none⟩ = some (refV (σ a)) := by rw [← c2]; exact cell_setCell_ne (unhide HD).d _ (by omega)
  go_wp2
  go_ret
  exact ⟨rfl, Went.made (unhide HH).1 (unhide HH).2 (unhide HB) (unhide HAB).1 none (fun _ h => by cases h)⟩
set_option maxRecDepth 100000 in
set_option maxHeartbeats 4000000 in
theorem makes_copy (h : Dk w B D σ) (he : Like σ) (on wi i j : Int) (s : ByteArray) (t0 : Sq) (hbs : σ (sm wi) = some t0) : Calls Tryd.prog 16 #[.pointer (some ⟨D, 0, none⟩), .agg #[.int .i64 14, .int .i64 on, .int .i64 wi, .int .i64 i, .int .i64 j, .string s]] w fun e w' => e = .returned (.bool true) ∧ Went w w' B D := by
  have HS1 := hide (fun u => lSeat on u)
  have HS2 := hide (fun u => lSeat wi u)
  have ha := sm_lt on
  have hb := sm_lt wi
  generalize sm on = a at *
  generalize sm wi = b at *
  have hE := En.start h ha hb 14 on wi i j s
  have hbel := (Below.refl w.heap.size w).alloc (Nat.le_refl _) (.cells #[.int .i64 14, .int .i64 on, .int .i64 wi, .int .i64 i, .int .i64 j, .string s] 32)
  have HH := hide (And.intro h he)
  have HD := hide (h.keep hbel)
  have HB := hide hbel
  have ha3 : ((a : Nat) : Int) < 3 := by omega
  have hb3 : ((b : Nat) : Int) < 3 := by omega
  have HAB := hide (And.intro ha hb)
  have hX : w.heap.size < (w.alloc (.cells #[.int .i64 14, .int .i64 on, .int .i64 wi, .int .i64 i, .int .i64 j, .string s] 32)).heap.size := World.block_lt_of_cell? _ _ hE.x0
  have HX := hide hX
  clear h he hbel hX
  go_enter Tryd.func16, Tryd.ntmps16
  go_wp2_with fail
  generalize w.alloc (.cells #[.int .i64 14, .int .i64 on, .int .i64 wi, .int .i64 i, .int .i64 j, .string s] 32) = w0 at *
  refine (unhide HS1 _).mono ?_
  rintro e wz ⟨rfl, hw⟩
  obtain rfl := hw.symm
  clear hw
  have c1 := hE.c1
  have c2 := hE.c2
  have c3 := hE.c3
  have c4 := hE.c4
  have x0 := hE.x0
  have x1 := hE.x1
  have x2 := hE.x2
  have x3 := hE.x3
  have x4 := hE.x4
  have x5 := hE.x5
  have HE := hide hE
  clear hE
  have HN := hide hbs
  clear hbs
  have HA := hide (fun u (hd : Dk u B D σ) => bCopy (hd.ok b (unhide HAB).2 t0 (unhide HN)).1.a)
  have HR := hide (fun u (hd : Dk u B D σ) => nCopy (hd.rn (unhide HH).2 (unhide HAB).2 (unhide HN)))
  obtain ⟨P0, hP0⟩ : ∃ P0, P0 = t0.p := ⟨_, rfl⟩
  obtain ⟨P1, hP1⟩ : ∃ P1, P1 = t0.p' := ⟨_, rfl⟩
  rw [← hP0] at HA
  rw [← hP1] at HR
  have c3b : w0.cell? ⟨D, b, none⟩ = some (.pointer (some ⟨P0, 0, none⟩)) := by rw [c3, unhide HN, hP0]; rfl
  have c4b : w0.cell? ⟨D, 3 + b, none⟩ = some (.pointer (some ⟨P1, 0, none⟩)) := by rw [c4, unhide HN, hP1]; rfl
  clear hP0 hP1 c3 c4
  have HDd := hide (unhide HD).drew
  have HDl : Hid (D < w0.drew.heap.size) := (unhide HD).dlt
  have HXd : Hid (w.heap.size < w0.drew.heap.size) := unhide HX
  have HBd : Hid (Below w.heap.size w w0.drew) := ⟨(unhide HB).os, (unhide HB).tape, (unhide HB).output, (unhide HB).size, (unhide HB).block⟩
  go_wp2
  go_region_held3 (fun u => u.cell? ⟨w.heap.size, 2, none⟩ = some (.int .i64 wi) ∧ u.cell? ⟨D, b, none⟩ = some (.pointer (some ⟨P0, 0, none⟩))) (first | (go_keep; done) | exact ⟨z2, z3⟩) (first | (go_at_call 41; refine (unhide HS2 _).mono ?_; rintro e wz ⟨rfl, rfl⟩) | (go_at_call 36; refine (unhide HA _ (unhide HDd)).mono ?_; rintro e w5 ⟨pa, qa, rfl, hpa, hqa, hma, hb5⟩; have z2 := (hb5.cell (p := ⟨w.heap.size, 2, none⟩) (unhide HXd)).trans x2; have z3 := (hb5.cell (p := ⟨D, b, none⟩) (unhide HDl)).trans c3b; have HM := hide (And.intro (unhide HBd).size (And.intro hpa (And.intro hqa hma))); have HB5 := hide hb5; clear hpa hqa hma hb5))
  have hE := ((unhide HE).drewN 1).below (unhide HB5) (unhide HDl) (unhide HXd)
  clear c1 c2 x0 x1 x2 x3 x4 x5
  have c1 := hE.c1
  have c2 := hE.c2
  have x0 := hE.x0
  have x1 := hE.x1
  have x2 := hE.x2
  have x3 := hE.x3
  have x4 := hE.x4
  have x5 := hE.x5
  have c4c := ((unhide HB5).cell (p := ⟨D, 3 + b, none⟩) (unhide HDl)).trans c4b
  have HE5 := hide hE
  clear hE HE
  have HD5 := hide ((unhide HDd).keep (unhide HB5)).drew
  have HDl5 : Hid (D < w5.drew.heap.size) := (unhide HD5).dlt
  have HXd5 : Hid (w.heap.size < w5.drew.heap.size) := Nat.lt_of_lt_of_le (unhide HXd) (unhide HB5).size
  have HBd5 : Hid (Below w.heap.size w w5.drew) := (fun h => ⟨h.os, h.tape, h.output, h.size, h.block⟩) ((unhide HBd).trans ((unhide HB5).mono (unhide HBd).size))
  clear HD HB HX HDd HDl HXd HBd c3b c4b z2 z3
  go_wp2
  go_region_held3 (fun u => u.cell? ⟨w.heap.size, 2, none⟩ = some (.int .i64 wi) ∧ u.cell? ⟨D, 3 + b, none⟩ = some (.pointer (some ⟨P1, 0, none⟩))) (first | (go_keep; done) | exact ⟨z2, z3⟩) (first | (go_at_call 41; refine (unhide HS2 _).mono ?_; rintro e wz ⟨rfl, rfl⟩) | (go_at_call 43; refine (unhide HR _ (unhide HD5)).mono ?_; rintro e w6 ⟨pb, qb, rfl, hpb, hqb, hlb, hmb, hb6⟩; have z2 := (hb6.cell (p := ⟨w.heap.size, 2, none⟩) (unhide HXd5)).trans x2; have z3 := (hb6.cell (p := ⟨D, 3 + b, none⟩) (unhide HDl5)).trans c4c; have HM6 := hide (And.intro hpb (And.intro hqb (And.intro hlb hmb))); have HB6 := hide hb6; clear hpb hqb hmb hlb hb6))
  have HR9 := hide (Sq.made (unhide HM).1 (unhide HM).2.1 (unhide HM).2.2.1 (unhide HM).2.2.2.drew (unhide HM6).1 (unhide HM6).2.1 (unhide HB6) (unhide HM6).2.2.2 (unhide HM6).2.2.1)
  have hE := ((unhide HE5).drewN 1).below (unhide HB6) (unhide HDl5) (unhide HXd5)
  clear c1 c2 x0 x1 x2 x3 x4 x5 c4c z2 z3
  have c1 := hE.c1
  have c2 := hE.c2
  clear hE HE5
  have HD := hide ((unhide HD5).keep (unhide HB6))
  have HB := hide ((unhide HBd5).trans ((unhide HB6).mono (unhide HBd5).size))
  have q1 : w6.frozen? ⟨D, a, none⟩ = false := (unhide HD).fz a
  have q2 : (w6.setCell ⟨D, a, none⟩ (.pointer (some ⟨pa, 0, none⟩))).frozen? ⟨D, 3 + a, none⟩ = false := by have := heapCell_same (unhide HD).d a (.pointer (some ⟨pa, 0, none⟩)); simp only [World.frozen?, this]; rfl
  have q3 : (w6.setCell ⟨D, a, none⟩ (.pointer (some ⟨pa, 0, none⟩))).cell? ⟨D, 3 + a, none⟩ = some (refV (σ a)) := by rw [← c2]; exact cell_setCell_ne (unhide HD).d _ (by omega)
  go_wp2
  go_ret
  exact ⟨rfl, Went.made (unhide HH).1 (unhide HH).2 (unhide HB) (unhide HAB).1 (some (Sq.mk pa qa pb qb t0.n t0.S t0.S)) (unhide HR9)⟩
end
end Go.Proofs.YtloealcaagfehaaDoor
