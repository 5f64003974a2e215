/- The walk of PageEncodes. -/
import Derived.Test.YtkmcjjlkammlaaaDoorPn
namespace Go.Proofs.YtkmcjjlkammlaaaDoor
open Go.RowKit

theorem Xb.grown {w u u' : World} {X B : Nat} {cs : Array Value} {r : Option Nat} (h : Xb w u X cs) (hg : u.grownBy u' r) (hr : ∀ k, r = some k → B ≤ k) (hX : X < B) (hw : w.heap.size ≤ B) : Xb w u' X cs := by
  have hb : ∀ k, k < u.heap.size → k < B → u'.heap[k]? = u.heap[k]? := fun k hk hB => hg.block k hk fun e => by have := hr k e.symm; omega
  have hs := h.bel.size
  exact ⟨fun k => by rw [← h.x k]; simp only [World.cell?, hb X h.xl hX], Nat.lt_of_lt_of_le h.xl hg.size, h.bel.trans ⟨hg.os, hg.tape, hg.output, hg.size, fun k hk => hb k (by omega) (by omega)⟩⟩
set_option maxRecDepth 100000 in
set_option maxHeartbeats 4000000 in
theorem encodes_walk (p q : Pg) (hp : p.Fit) (hq : q.Fit) (w : World) (hT : Tab w) : Calls Tryd.prog 3 #[.agg p.cs, .agg q.cs] w fun e w' => e = .returned (.bool true) ∧ Below w.heap.size w w' := by
  have HT := hide hT
  have HMp := hide (fun u => mEncAny p hp u)
  have HMq := hide (fun u => mEncAny q hq u)
  have HPp := hide (fun u (hu : Tab u) => pEncAny p hp u hu)
  have HPq := hide (fun u (hu : Tab u) => pEncAny q hq u hu)
  have HSp := hide (fun B u v (h : EncV B u p v) => spoilAny h)
  have HCp := hide (fun B u v (h : EncV B u p v) => h.conv)
  have HCq := hide (fun B u v (h : EncV B u q v) => h.conv)
  generalize p.encS = sp at *
  generalize q.encS = sq at *
  generalize p.wrong = ep at *
  generalize q.wrong = eq at *
  have EP : p.cs = #[.int .u8 (p.kind : Int), .int .u32 (p.num : Int), .int .u64 (p.ser : Int), .string p.body] := rfl
  have EQ : q.cs = #[.int .u8 (q.kind : Int), .int .u32 (q.num : Int), .int .u64 (q.ser : Int), .string q.body] := rfl
  rw [EP] at HMp HPp
  rw [EQ] at HMq HPq
  rw [EP, EQ]
  generalize p.kind = k1 at *
  generalize p.num = n1 at *
  generalize p.ser = s1 at *
  generalize p.body = b1 at *
  generalize q.kind = k2 at *
  generalize q.num = n2 at *
  generalize q.ser = s2 at *
  generalize q.body = b2 at *
  clear hT hp hq EP EQ
  have hX := Xb.start w #[.int .u8 (k1 : Int), .int .u32 (n1 : Int), .int .u64 (s1 : Int), .string b1] 25
  obtain ⟨w1, hw1⟩ : ∃ w1, w1 = w.alloc (.cells #[.int .u8 (k1 : Int), .int .u32 (n1 : Int), .int .u64 (s1 : Int), .string b1] 25) := ⟨_, rfl⟩
  have hsz : w1.heap.size = w.heap.size + 1 := by rw [hw1]; simp
  have hY : Xb w (w1.alloc (.cells #[.int .u8 (k2 : Int), .int .u32 (n2 : Int), .int .u64 (s2 : Int), .string b2] 25)) (w.heap.size + 1) #[.int .u8 (k2 : Int), .int .u32 (n2 : Int), .int .u64 (s2 : Int), .string b2] := by
    have h := Xb.start w1 #[.int .u8 (k2 : Int), .int .u32 (n2 : Int), .int .u64 (s2 : Int), .string b2] 25
    rw [hsz] at h
    rw [← hw1] at hX
    exact ⟨h.x, h.xl, hX.bel.trans (h.bel.mono (by omega))⟩
  have hX2 : Xb w (w1.alloc (.cells #[.int .u8 (k2 : Int), .int .u32 (n2 : Int), .int .u64 (s2 : Int), .string b2] 25)) w.heap.size #[.int .u8 (k1 : Int), .int .u32 (n1 : Int), .int .u64 (s1 : Int), .string b1] := by
    rw [← hw1] at hX
    exact hX.below ((Below.refl w1.heap.size w1).alloc (Nat.le_refl _) _)
  rw [hw1] at hY hX2
  have HX := hide hX2
  have HY := hide hY
  clear hX hw1 hsz hX2 hY w1
  go_enter Tryd.func3, Tryd.ntmps3
  go_wp2_with fail
  generalize ((w.alloc (.cells #[.int .u8 (k1 : Int), .int .u32 (n1 : Int), .int .u64 (s1 : Int), .string b1] 25)).alloc (.cells #[.int .u8 (k2 : Int), .int .u32 (n2 : Int), .int .u64 (s2 : Int), .string b2] 25)) = w0 at *
  refine (unhide HMp _).mono ?_
  rintro e w1 ⟨rfl, hb⟩
  have HX2 := hide ((unhide HX).below hb)
  have HY2 := hide ((unhide HY).below hb)
  clear HX HY
  have HX := hide (unhide HX2)
  clear HX2
  have HY := hide (unhide HY2)
  clear HY2
  clear hb
  have x0 := (unhide HX).x 0
  have y0 := (unhide HY).x 0
  have x1 := (unhide HX).x 1
  have y1 := (unhide HY).x 1
  have x2 := (unhide HX).x 2
  have y2 := (unhide HY).x 2
  have x3 := (unhide HX).x 3
  have y3 := (unhide HY).x 3
  simp only [List.getElem?_toArray, List.getElem?_cons_zero, List.getElem?_cons_succ] at x0 y0 x1 y1 x2 y2 x3 y3
  go_wp2_with fail
  clear x0 y0 x1 y1 x2 y2 x3 y3
  refine (unhide HMq _).mono ?_
  rintro e w2 ⟨rfl, hb⟩
  have HX2 := hide ((unhide HX).below hb)
  have HY2 := hide ((unhide HY).below hb)
  clear HX HY
  have HX := hide (unhide HX2)
  clear HX2
  have HY := hide (unhide HY2)
  clear HY2
  clear hb
  have x0 := (unhide HX).x 0
  have y0 := (unhide HY).x 0
  have x1 := (unhide HX).x 1
  have y1 := (unhide HY).x 1
  have x2 := (unhide HX).x 2
  have y2 := (unhide HY).x 2
  have x3 := (unhide HX).x 3
  have y3 := (unhide HY).x 3
  simp only [List.getElem?_toArray, List.getElem?_cons_zero, List.getElem?_cons_succ] at x0 y0 x1 y1 x2 y2 x3 y3
  go_wp2_with fail
  clear x0 y0 x1 y1 x2 y2 x3 y3
  have HS2 := hide (And.intro (unhide HX).xl (unhide HY).xl)
  refine (unhide HPp _ ((unhide HT).below (unhide HX).bel (unhide HT).pos)).mono ?_
  rintro e w3 ⟨va, rfl, hv, hb⟩
  have HX2 := hide ((unhide HX).below hb)
  have HY2 := hide ((unhide HY).below hb)
  clear HX HY
  have HX := hide (unhide HX2)
  clear HX2
  have HY := hide (unhide HY2)
  clear HY2
  have HVva := hide hv
  have HBa : Hid (w.heap.size ≤ w2.heap.size ∧ w.heap.size < w2.heap.size ∧ w.heap.size + 1 < w2.heap.size) := ⟨Nat.le_of_lt (unhide HS2).1, unhide HS2⟩
  have HLa := hide (fun k (hk : va.ownBlock = some k) => hv.ge hk)
  clear hb hv
  have x0 := (unhide HX).x 0
  have y0 := (unhide HY).x 0
  have x1 := (unhide HX).x 1
  have y1 := (unhide HY).x 1
  have x2 := (unhide HX).x 2
  have y2 := (unhide HY).x 2
  have x3 := (unhide HX).x 3
  have y3 := (unhide HY).x 3
  simp only [List.getElem?_toArray, List.getElem?_cons_zero, List.getElem?_cons_succ] at x0 y0 x1 y1 x2 y2 x3 y3
  go_wp2_with fail
  clear x0 y0 x1 y1 x2 y2 x3 y3
  refine (unhide HPq _ ((unhide HT).below (unhide HX).bel (unhide HT).pos)).mono ?_
  rintro e w4 ⟨vb, rfl, hv, hb⟩
  have HX2 := hide ((unhide HX).below hb)
  have HY2 := hide ((unhide HY).below hb)
  have HVva2 := hide ((unhide HVva).below hb)
  clear HX HY HVva
  have HX := hide (unhide HX2)
  clear HX2
  have HY := hide (unhide HY2)
  clear HY2
  have HVva := hide (unhide HVva2)
  clear HVva2
  have HVvb := hide hv
  have HNe : Hid (∀ k, vb.ownBlock = some k → va.ownBlock ≠ some k) := fun k hk e => by have h1 := hv.ge hk; have h2 := unhide HLa k e; omega
  clear hb hv
  have hca := unhide HCp _ _ _ (unhide HVva)
  have hcb := unhide HCq _ _ _ (unhide HVvb)
  have x0 := (unhide HX).x 0
  have y0 := (unhide HY).x 0
  have x1 := (unhide HX).x 1
  have y1 := (unhide HY).x 1
  have x2 := (unhide HX).x 2
  have y2 := (unhide HY).x 2
  have x3 := (unhide HX).x 3
  have y3 := (unhide HY).x 3
  simp only [List.getElem?_toArray, List.getElem?_cons_zero, List.getElem?_cons_succ] at x0 y0 x1 y1 x2 y2 x3 y3
  go_wp2_with fail
  clear x0 y0 x1 y1 x2 y2 x3 y3
  clear hca hcb
  refine (unhide HSp _ _ _ (unhide HVva)).mono ?_
  rintro e w5 ⟨rfl, hg⟩
  have HX5 := hide ((unhide HX).grown hg (fun k hk => (unhide HLa k hk).1) (unhide HBa).2.1 (unhide HBa).1)
  have HY5 := hide ((unhide HY).grown hg (fun k hk => (unhide HLa k hk).1) (unhide HBa).2.2 (unhide HBa).1)
  have HVb5 := hide ((unhide HVvb).keep (u' := w5) (fun k hk hl => hg.block k hl (fun e => unhide HNe k hk e.symm)))
  clear HX HY HVva HVvb hg
  have HX := hide (unhide HX5)
  have HY := hide (unhide HY5)
  have HVvb := hide (unhide HVb5)
  clear HX5 HY5 HVb5
  have hcb := unhide HCq _ _ _ (unhide HVvb)
  have x0 := (unhide HX).x 0
  have y0 := (unhide HY).x 0
  have x1 := (unhide HX).x 1
  have y1 := (unhide HY).x 1
  have x2 := (unhide HX).x 2
  have y2 := (unhide HY).x 2
  have x3 := (unhide HX).x 3
  have y3 := (unhide HY).x 3
  simp only [List.getElem?_toArray, List.getElem?_cons_zero, List.getElem?_cons_succ] at x0 y0 x1 y1 x2 y2 x3 y3
  go_wp2_with fail
  clear x0 y0 x1 y1 x2 y2 x3 y3
  clear hcb
  refine (unhide HPp _ ((unhide HT).below (unhide HX).bel (unhide HT).pos)).mono ?_
  rintro e w6 ⟨vc, rfl, hv, hb⟩
  have HX2 := hide ((unhide HX).below hb)
  have HY2 := hide ((unhide HY).below hb)
  have HVvb2 := hide ((unhide HVvb).below hb)
  clear HX HY HVvb
  have HX := hide (unhide HX2)
  clear HX2
  have HY := hide (unhide HY2)
  clear HY2
  have HVvb := hide (unhide HVvb2)
  clear HVvb2
  have HVvc := hide hv
  clear hb hv
  have hcc := unhide HCp _ _ _ (unhide HVvc)
  have hcb := unhide HCq _ _ _ (unhide HVvb)
  have x0 := (unhide HX).x 0
  have y0 := (unhide HY).x 0
  have x1 := (unhide HX).x 1
  have y1 := (unhide HY).x 1
  have x2 := (unhide HX).x 2
  have y2 := (unhide HY).x 2
  have x3 := (unhide HX).x 3
  have y3 := (unhide HY).x 3
  simp only [List.getElem?_toArray, List.getElem?_cons_zero, List.getElem?_cons_succ] at x0 y0 x1 y1 x2 y2 x3 y3
  go_wp2
  go_ret
  exact ⟨rfl, (unhide HX).bel⟩
end Go.Proofs.YtkmcjjlkammlaaaDoor
