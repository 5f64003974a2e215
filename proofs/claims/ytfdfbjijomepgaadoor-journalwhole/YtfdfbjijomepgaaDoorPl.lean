/- The page: fixed, front. -/
import Derived.Test.YtfdfbjijomepgaaDoorPw
import Derived.Test.YtfdfbjijomepgaaDoorPc
import Derived.Test.YtfdfbjijomepgaaDoorPr
namespace Go.Proofs.YtfdfbjijomepgaaDoor
open Go.RowKit Go.Lib

/-- a page's content -/
structure Pg where
  kind : Nat
  num : Nat
  ser : Nat
  body : ByteArray
structure Pg.Fit (p : Pg) : Prop where
  kind : p.kind < 256
  num : p.num < 4294967296
  ser : p.ser < 18446744073709551616
def Pg.cs (p : Pg) : Array Value := #[.int .u8 (p.kind : Int), .int .u32 (p.num : Int), .int .u64 (p.ser : Int), .string p.body]
/-- what stands ahead of the sum -/
def Pg.fr (p : Pg) : List UInt8 := fixB p.ser 8 ++ [UInt8.ofNat p.kind] ++ [0] ++ fixB p.body.size 2 ++ fixB p.num 4
theorem Pg.fr_len (p : Pg) : p.fr.length = 16 := by simp [Pg.fr, fixB_length]
theorem Put.below {w w' : World} {a r r' B : Nat} {bs : List UInt8} (h : Put w w' a r r' bs) (hB : B ≤ w.heap.size) (ha : B ≤ a) (hr : B ≤ r) : Below B w w' := h.2.2.below hB ha hr
theorem pFixed (v : Nat) (n : Int) (hn0 : 1 ≤ n) (hn1 : n ≤ 8) (hv : v < 256 ^ n.toNat) (w : World) :
    Calls Tryd.prog 74 #[.int .u64 v, .int .i64 n] w fun e w' => e = .returned (.string ⟨(fixB v n.toNat).toArray⟩) ∧ Below w.heap.size w w' := by
  have HA := hide (wFixed w.heap.size w.heap.size [] v n _ (Wr.new w 135) hn0 hn1 hv (by decide))
  have HB := hide ((Below.refl w.heap.size w).alloc (Nat.le_refl _) (.cells #[.slice none 0 0] 135))
  clear hn0 hn1 hv
  go_enter Tryd.func74, Tryd.ntmps74
  go_wp2_with fail
  refine (wNew _).mono ?_
  rintro e w1 ⟨rfl, rfl⟩
  go_wp2_with fail
  refine (unhide HA).mono ?_
  rintro e w2 ⟨rfl, r', hp⟩
  have HP := hide hp
  have hb := hp.below (B := w.heap.size) (unhide HB).size (Nat.le_refl _) (Nat.le_refl _)
  have HB2 := hide ((unhide HB).trans hb)
  clear hp hb
  go_wp2_with fail
  refine (wTold _ _ _ _ (unhide HP).1).mono ?_
  rintro e w3 ⟨rfl, hw⟩
  obtain rfl := hw.symm
  clear hw
  go_wp2
  go_ret
  exact ⟨rfl, unhide HB2⟩
/-- a page in memory, and a writer beside it -/
structure Fs (w u : World) (X A r : Nat) (cs : Array Value) (bs : List UInt8) : Prop where
  wr : Wr u A r bs
  x : ∀ k, u.cell? ⟨X, k, none⟩ = cs[k]?
  xl : X < u.heap.size
  ne : X ≠ A
  nr : X ≠ r
  ga : w.heap.size ≤ A
  gr : w.heap.size ≤ r
  bel : Below w.heap.size w u
theorem Fs.put {w u u' : World} {X A r r' : Nat} {cs : Array Value} {bs bs' : List UInt8} (h : Fs w u X A r cs bs) (hp : Put u u' A r r' bs') : Fs w u' X A r' cs bs' := by
  obtain ⟨h1, h2, h3⟩ := hp
  have hsz := h3.size
  have hb := h.bel.size
  have hx := h.xl
  refine ⟨h1, fun k => (h3.cell (p := ⟨X, k, none⟩) h.xl h.ne h.nr).trans (h.x k), by omega, h.ne, ?_, h.ga, ?_, h.bel.trans (h3.below hb h.ga h.gr)⟩
  · rcases h2 with rfl | h2
    · exact h.nr
    · omega
  · rcases h2 with rfl | h2
    · exact h.gr
    · omega
theorem cellOf {u : World} {g : Nat} {cs : Array Value} {t : TypeId} {fr : Nat × Nat} (h : u.heap[g]? = some (.cells cs t fr)) (k : Nat) : u.cell? ⟨g, k, none⟩ = cs[k]? := by simp [World.cell?, h]
theorem Fs.start (w : World) (cs : Array Value) (t : TypeId) : Fs w ((w.alloc (.cells cs t)).alloc (.cells #[.slice none 0 0] 135)) w.heap.size (w.alloc (.cells cs t)).heap.size (w.alloc (.cells cs t)).heap.size cs [] := by
  have e : (w.alloc (.cells cs t)).heap.size = w.heap.size + 1 := by simp
  have h1 := Wr.new (w.alloc (.cells cs t)) 135
  have hb := (Below.refl w.heap.size w).alloc (Nat.le_refl _) (.cells cs t)
  have hb2 := hb.alloc hb.size (.cells #[.slice none 0 0] 135)
  have hn := heap_alloc_new w (.cells cs t)
  have hb3 := (Below.refl (w.heap.size + 1) (w.alloc (.cells cs t))).alloc (by rw [e]; exact Nat.le_refl _) (.cells #[.slice none 0 0] 135)
  exact ⟨h1, fun k => (hb3.cell (p := ⟨w.heap.size, k, none⟩) (Nat.lt_succ_self _)).trans (cellOf hn k), by simp; omega, by omega, by omega, by omega, by omega, hb2⟩
theorem pFront (p : Pg) (hp : p.Fit) (hs : p.body.size ≤ 996) (w : World) :
    Calls Tryd.prog 73 #[.agg p.cs] w fun e w' => e = .returned (.string ⟨p.fr.toArray⟩) ∧ Below w.heap.size w w' := by
  obtain ⟨kind, num, ser, body⟩ := p
  obtain ⟨h1, h2, h3⟩ := hp
  simp only at h1 h2 h3 hs
  show Calls Tryd.prog 73 #[.agg #[.int .u8 (kind : Int), .int .u32 (num : Int), .int .u64 (ser : Int), .string body]] w _
  have HS := hide (Fs.start w #[.int .u8 (kind : Int), .int .u32 (num : Int), .int .u64 (ser : Int), .string body] 70)
  have HF := hide (And.intro h1 (And.intro h2 (And.intro h3 hs)))
  have hb1 : (body.size : Int) ≤ 996 := by omega
  have hn1 : (num : Int) < 4294967296 := by omega
  clear hs h1 h2 h3
  go_enter Tryd.func73, Tryd.ntmps73
  go_wp2_with fail
  refine (wNew _).mono ?_
  rintro e w1 ⟨rfl, hw⟩
  obtain rfl := hw.symm
  clear hw
  obtain ⟨A, hA⟩ : ∃ A, A = (w.alloc (.cells #[.int .u8 (kind : Int), .int .u32 (num : Int), .int .u64 (ser : Int), .string body] 70)).heap.size := ⟨_, rfl⟩
  rw [← hA] at HS ⊢
  generalize ((w.alloc (.cells #[.int .u8 (kind : Int), .int .u32 (num : Int), .int .u64 (ser : Int), .string body] 70)).alloc (.cells #[.slice none 0 0] 135)) = w1 at *
  clear hA
  have c0 := (unhide HS).x 0
  have c1 := (unhide HS).x 1
  have c2 := (unhide HS).x 2
  have c3 := (unhide HS).x 3
  simp only [List.getElem?_toArray, List.getElem?_cons_zero, List.getElem?_cons_succ] at c0 c1 c2 c3
  have HC := hide (wFixed _ _ _ ser 8 w1 (unhide HS).wr (by decide) (by decide) (unhide HF).2.2.1 (by decide))
  go_wp2_with fail
  refine (unhide HC).mono ?_
  rintro e w2 ⟨rfl, r2, hp⟩
  have HS2 := hide ((unhide HS).put hp)
  clear hp c0 c1 c2 c3 HC HS
  have HS := hide (unhide HS2)
  clear HS2
  have c0 := (unhide HS).x 0
  have c1 := (unhide HS).x 1
  have c2 := (unhide HS).x 2
  have c3 := (unhide HS).x 3
  simp only [List.getElem?_toArray, List.getElem?_cons_zero, List.getElem?_cons_succ] at c0 c1 c2 c3
  have HC := hide (wByte _ _ _ (kind : Int) w2 (unhide HS).wr (by omega) (by have := (unhide HF).1; omega) (by simp [fixB_length]))
  go_wp2_with fail
  refine (unhide HC).mono ?_
  rintro e w3 ⟨rfl, r3, hp⟩
  have HS3 := hide ((unhide HS).put hp)
  clear hp c0 c1 c2 c3 HC HS
  have HS := hide (unhide HS3)
  clear HS3
  have c0 := (unhide HS).x 0
  have c1 := (unhide HS).x 1
  have c2 := (unhide HS).x 2
  have c3 := (unhide HS).x 3
  simp only [List.getElem?_toArray, List.getElem?_cons_zero, List.getElem?_cons_succ] at c0 c1 c2 c3
  have HC := hide (wByte _ _ _ 0 w3 (unhide HS).wr (by decide) (by decide) (by simp [fixB_length]))
  go_wp2_with fail
  refine (unhide HC).mono ?_
  rintro e w4 ⟨rfl, r4, hp⟩
  have HS4 := hide ((unhide HS).put hp)
  clear hp c0 c1 c2 c3 HC HS
  have HS := hide (unhide HS4)
  clear HS4
  have c0 := (unhide HS).x 0
  have c1 := (unhide HS).x 1
  have c2 := (unhide HS).x 2
  have c3 := (unhide HS).x 3
  simp only [List.getElem?_toArray, List.getElem?_cons_zero, List.getElem?_cons_succ] at c0 c1 c2 c3
  have HC := hide (wFixed _ _ _ body.size 2 w4 (unhide HS).wr (by decide) (by decide) (Nat.lt_of_le_of_lt (unhide HF).2.2.2 (by decide)) (by simp [fixB_length]))
  go_wp2_with fail
  refine (unhide HC).mono ?_
  rintro e w5 ⟨rfl, r5, hp⟩
  have HS5 := hide ((unhide HS).put hp)
  clear hp c0 c1 c2 c3 HC HS
  have HS := hide (unhide HS5)
  clear HS5
  have c0 := (unhide HS).x 0
  have c1 := (unhide HS).x 1
  have c2 := (unhide HS).x 2
  have c3 := (unhide HS).x 3
  simp only [List.getElem?_toArray, List.getElem?_cons_zero, List.getElem?_cons_succ] at c0 c1 c2 c3
  have HC := hide (wFixed _ _ _ num 4 w5 (unhide HS).wr (by decide) (by decide) (unhide HF).2.1 (by simp [fixB_length]))
  go_wp2_with fail
  refine (unhide HC).mono ?_
  rintro e w6 ⟨rfl, r6, hp⟩
  have HS6 := hide ((unhide HS).put hp)
  clear hp c0 c1 c2 c3 HC HS
  have HS := hide (unhide HS6)
  clear HS6
  go_wp2_with fail
  refine (wTold _ _ _ _ (unhide HS).wr).mono ?_
  rintro e w7 ⟨rfl, hw⟩
  obtain rfl := hw.symm
  clear hw
  go_wp2
  go_ret
  exact ⟨rfl, (unhide HS).bel⟩
end Go.Proofs.YtfdfbjijomepgaaDoor
