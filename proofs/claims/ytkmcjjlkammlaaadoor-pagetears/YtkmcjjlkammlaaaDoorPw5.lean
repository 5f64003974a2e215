/- The walk of PageTears. -/
import Derived.Test.YtkmcjjlkammlaaaDoorPt5
import Derived.Test.YtkmcjjlkammlaaaDoorPo
import Derived.Test.YtkmcjjlkammlaaaDoorPz
namespace Go.Proofs.YtkmcjjlkammlaaaDoor
open Go.RowKit Go.Lib

theorem ofEnc {u : World} {p : Pg} (hw : p.wrong = 0) {G : Nat} (h : u.heap[G]? = some (.cells (img p.enc) 52 (0, 0))) : p.enc.length = 1024 ∧ G < u.heap.size ∧ ∀ (j : Nat) (hj : j < p.enc.length), u.cell? ⟨G, 0 + j, none⟩ = some (.int .u8 (p.enc[j].toNat : Int)) :=
  ⟨p.bytes_len (Pg.may hw).2 _, (Array.getElem?_eq_some_iff.1 h).1, fun j hj => by rw [Nat.zero_add, cellOf h, img_at _ j hj]⟩
theorem bytes_toList (s : ByteArray) : s.toList = s.data.toList := by
  rw [ByteArray.toList_eq]
theorem toList_ne {a b : ByteArray} (h : ¬ a = b) : ¬ a.toList = b.toList := fun e => h (by
  rw [bytes_toList, bytes_toList] at e
  cases a; cases b
  simp only at e
  congr 1
  exact Array.toList_inj.1 e)
theorem bc_at (l : List UInt8) (j : Nat) (hj : j < l.length) : (byteCells l)[j]? = some (.int .u8 (l[j].toNat : Int)) := by simp [byteCells, hj]
theorem bc_lt {l : List UInt8} {j : Nat} {u : Value} (h : (byteCells l)[j]? = some u) : j < l.length := by
  have := (List.getElem?_eq_some_iff.1 h).1
  rwa [byteCells_length] at this
/-- the rest of a page's bytes -/
theorem rest_of (G c : Nat) (hc : c ≤ 1024) : ∃ ad : Addr, (∀ W, (Instr.slice 29 (.slice (some ⟨G, 0, none⟩) 1024 1024) (some (.int .i64 (c : Int))) none none).run Tryd.prog W = .ok (.slice (some ad) (1024 - c) (1024 - c)) W) ∧ ∀ j, j < 1024 - c → ad.add j = ⟨G, c + j, none⟩ := by
  refine ⟨if 1024 = c then ⟨G, 0, none⟩ else ⟨G, c, none⟩, fun W => run_slice_tailV W 29 5 Tryd.underlying29 (fun w => ?_) G 1024 c hc, fun j hj => ?_⟩
  · have h : (Tryd.prog.info? 5).map (·.size) = some 1 := by kernel_rfl
    cases hq : Tryd.prog.info? 5 with
    | none => simp [hq] at h
    | some i => simp [sizeOf, typeInfo, hq] at h ⊢; exact h
  · rw [if_neg (by omega), Addr.add_mid]
/-- a row that is owned, as bytes that lie somewhere -/
theorem own_bytes {u : World} {B n : Nat} {v : Value} {l : List UInt8} (h : u.ownsRow B 5 1 v n (byteCells l)) (hn : 0 < n) (hl : l.length = n) : ∃ g cap, v = .slice (some ⟨g, 0, none⟩) n cap ∧ B ≤ g ∧ n ≤ cap ∧ cap ≤ 9223372036854775807 ∧ g < u.heap.size ∧ ∀ (j : Nat) (hj : j < l.length), u.cell? ⟨g, 0 + j, none⟩ = some (.int .u8 (l[j].toNat : Int)) := by
  rcases h.2 with ⟨_, h1⟩ | ⟨g, cap, cur, rfl, hb, hg, hnc, hm, hs, ht⟩
  · omega
  · refine ⟨g, cap, rfl, hb, hnc, hm, (Array.getElem?_eq_some_iff.1 hg).1, fun j hj => ?_⟩
    have h4 : (cur.toList.take (n * 1))[j]? = (byteCells l)[j]? := by rw [ht]
    rw [List.getElem?_take_of_lt (by omega), Array.getElem?_toList] at h4
    rw [Nat.zero_add, cellOf hg, h4]
    simp [byteCells, hj]
set_option maxRecDepth 100000 in
set_option maxHeartbeats 4000000 in
theorem tears_walk (p q : Pg) (hp : p.Fit) (hq : q.Fit) (cut : Int) (w : World) (hT : Tab w) : Calls Tryd.prog 7 #[.agg p.cs, .agg q.cs, .int .i64 cut] w fun e w' => e = .returned (.bool true) ∧ Below w.heap.size w w' := by
  have HT := hide hT
  have HAw := hide (fun u (hu : Tab u) => awake_ok u hu)
  have HMp := hide (fun u => mMay p u)
  have HMq := hide (fun u => mMay q u)
  have HPp := hide (fun (hw : p.wrong = 0) u (hu : Tab u) => pEncode p hp hw u hu)
  have HPq := hide (fun (hw : q.wrong = 0) u (hu : Tab u) => pEncode q hq hw u hu)
  have HFp := hide hp
  have HFq := hide hq
  have HSp : Hid (∃ s, s = p.ser) := ⟨_, rfl⟩
  have EP : p.cs = #[.int .u8 (p.kind : Int), .int .u32 (p.num : Int), .int .u64 (p.ser : Int), .string p.body] := rfl
  have EQ : q.cs = #[.int .u8 (q.kind : Int), .int .u32 (q.num : Int), .int .u64 (q.ser : Int), .string q.body] := rfl
  rw [EP] at HMp HPp
  rw [EQ] at HMq HPq
  rw [EP, EQ]
  generalize p.kind = k1 at *
  generalize p.num = n1 at *
  generalize hs1 : p.ser = s1 at *
  generalize p.body = b1 at *
  generalize q.kind = k2 at *
  generalize q.num = n2 at *
  generalize hs2 : q.ser = s2 at *
  have HS1 := hide hs1
  have HS2 := hide hs2
  clear hs1 hs2 HSp
  generalize q.body = b2 at *
  clear hT hp hq EP EQ
  have hX := Xb.start w #[.int .u8 (k1 : Int), .int .u32 (n1 : Int), .int .u64 (s1 : Int), .string b1] 25
  obtain ⟨w1, hw1⟩ : ∃ w1, w1 = w.alloc (.cells #[.int .u8 (k1 : Int), .int .u32 (n1 : Int), .int .u64 (s1 : Int), .string b1] 25) := ⟨_, rfl⟩
  have hsz : w1.heap.size = w.heap.size + 1 := by rw [hw1]; simp
  have hY : Xb w (w1.alloc (.cells #[.int .u8 (k2 : Int), .int .u32 (n2 : Int), .int .u64 (s2 : Int), .string b2] 25)) (w.heap.size + 1) #[.int .u8 (k2 : Int), .int .u32 (n2 : Int), .int .u64 (s2 : Int), .string b2] := by
    have h := Xb.start w1 #[.int .u8 (k2 : Int), .int .u32 (n2 : Int), .int .u64 (s2 : Int), .string b2] 25
    rw [hsz] at h
    rw [← hw1] at hX
    exact ⟨h.x, h.xl, hX.bel.trans (h.bel.mono (by omega))⟩
  have hX2 : Xb w (w1.alloc (.cells #[.int .u8 (k2 : Int), .int .u32 (n2 : Int), .int .u64 (s2 : Int), .string b2] 25)) w.heap.size #[.int .u8 (k1 : Int), .int .u32 (n1 : Int), .int .u64 (s1 : Int), .string b1] := by
    rw [← hw1] at hX
    exact hX.below ((Below.refl w1.heap.size w1).alloc (Nat.le_refl _) _)
  rw [hw1] at hY hX2
  have HX := hide hX2
  have HY := hide hY
  clear hX hw1 hsz hX2 hY w1
  go_enter Tryd.func7, Tryd.ntmps7
  go_wp2_with fail
  generalize ((w.alloc (.cells #[.int .u8 (k1 : Int), .int .u32 (n1 : Int), .int .u64 (s1 : Int), .string b1] 25)).alloc (.cells #[.int .u8 (k2 : Int), .int .u32 (n2 : Int), .int .u64 (s2 : Int), .string b2] 25)) = w0 at *
  refine (unhide HAw _ ((unhide HT).below (unhide HX).bel (unhide HT).pos)).mono ?_
  rintro e w1 ⟨rfl, hb⟩
  have HX2 := hide ((unhide HX).below hb)
  have HY2 := hide ((unhide HY).below hb)
  clear HX HY
  have HX := hide (unhide HX2)
  clear HX2
  have HY := hide (unhide HY2)
  clear HY2
  clear hb HAw
  have x0 := (unhide HX).x 0
  have y0 := (unhide HY).x 0
  have x1 := (unhide HX).x 1
  have y1 := (unhide HY).x 1
  have x2 := (unhide HX).x 2
  have y2 := (unhide HY).x 2
  have x3 := (unhide HX).x 3
  have y3 := (unhide HY).x 3
  simp only [List.getElem?_toArray, List.getElem?_cons_zero, List.getElem?_cons_succ] at x0 y0 x1 y1 x2 y2 x3 y3
  go_wp2_with fail
  clear x0 y0 x1 y1 x2 y2 x3 y3
  by_cases hwp : p.wrong = 0
  rotate_left
  · rw [decide_eq_false hwp] at HMp
    refine (unhide HMp _).mono ?_
    rintro e w2 ⟨rfl, hb⟩
    have HX2 := hide ((unhide HX).below hb)
    have HY2 := hide ((unhide HY).below hb)
    clear HX HY
    have HX := hide (unhide HX2)
    clear HX2
    have HY := hide (unhide HY2)
    clear HY2
    clear hb
    have x0 := (unhide HX).x 0
    have y0 := (unhide HY).x 0
    have x1 := (unhide HX).x 1
    have y1 := (unhide HY).x 1
    have x2 := (unhide HX).x 2
    have y2 := (unhide HY).x 2
    have x3 := (unhide HX).x 3
    have y3 := (unhide HY).x 3
    simp only [List.getElem?_toArray, List.getElem?_cons_zero, List.getElem?_cons_succ] at x0 y0 x1 y1 x2 y2 x3 y3
    go_wp2
    go_ret
    exact ⟨rfl, (unhide HX).bel⟩
  rw [hwp, decide_eq_true rfl] at HMp
  have HWp := hide hwp
  clear hwp
  refine (unhide HMp _).mono ?_
  rintro e w2 ⟨rfl, hb⟩
  have HX2 := hide ((unhide HX).below hb)
  have HY2 := hide ((unhide HY).below hb)
  clear HX HY
  have HX := hide (unhide HX2)
  clear HX2
  have HY := hide (unhide HY2)
  clear HY2
  clear hb HMp
  have x0 := (unhide HX).x 0
  have y0 := (unhide HY).x 0
  have x1 := (unhide HX).x 1
  have y1 := (unhide HY).x 1
  have x2 := (unhide HX).x 2
  have y2 := (unhide HY).x 2
  have x3 := (unhide HX).x 3
  have y3 := (unhide HY).x 3
  simp only [List.getElem?_toArray, List.getElem?_cons_zero, List.getElem?_cons_succ] at x0 y0 x1 y1 x2 y2 x3 y3
  go_wp2_with fail
  clear x0 y0 x1 y1 x2 y2 x3 y3
  by_cases hwq : q.wrong = 0
  rotate_left
  · rw [decide_eq_false hwq] at HMq
    refine (unhide HMq _).mono ?_
    rintro e w3 ⟨rfl, hb⟩
    have HX2 := hide ((unhide HX).below hb)
    have HY2 := hide ((unhide HY).below hb)
    clear HX HY
    have HX := hide (unhide HX2)
    clear HX2
    have HY := hide (unhide HY2)
    clear HY2
    clear hb
    have x0 := (unhide HX).x 0
    have y0 := (unhide HY).x 0
    have x1 := (unhide HX).x 1
    have y1 := (unhide HY).x 1
    have x2 := (unhide HX).x 2
    have y2 := (unhide HY).x 2
    have x3 := (unhide HX).x 3
    have y3 := (unhide HY).x 3
    simp only [List.getElem?_toArray, List.getElem?_cons_zero, List.getElem?_cons_succ] at x0 y0 x1 y1 x2 y2 x3 y3
    go_wp2
    go_ret
    exact ⟨rfl, (unhide HX).bel⟩
  rw [hwq, decide_eq_true rfl] at HMq
  have HWq := hide hwq
  clear hwq
  refine (unhide HMq _).mono ?_
  rintro e w3 ⟨rfl, hb⟩
  have HX2 := hide ((unhide HX).below hb)
  have HY2 := hide ((unhide HY).below hb)
  clear HX HY
  have HX := hide (unhide HX2)
  clear HX2
  have HY := hide (unhide HY2)
  clear HY2
  clear hb HMq
  by_cases hse : s1 = s2
  · subst hse
    have x0 := (unhide HX).x 0
    have y0 := (unhide HY).x 0
    have x1 := (unhide HX).x 1
    have y1 := (unhide HY).x 1
    have x2 := (unhide HX).x 2
    have y2 := (unhide HY).x 2
    have x3 := (unhide HX).x 3
    have y3 := (unhide HY).x 3
    simp only [List.getElem?_toArray, List.getElem?_cons_zero, List.getElem?_cons_succ] at x0 y0 x1 y1 x2 y2 x3 y3
    go_wp2
    go_ret
    exact ⟨rfl, (unhide HX).bel⟩
  have hsi : ¬ (s1 : Int) = (s2 : Int) := by omega
  have HSE := hide hse
  clear hse
  have x0 := (unhide HX).x 0
  have y0 := (unhide HY).x 0
  have x1 := (unhide HX).x 1
  have y1 := (unhide HY).x 1
  have x2 := (unhide HX).x 2
  have y2 := (unhide HY).x 2
  have x3 := (unhide HX).x 3
  have y3 := (unhide HY).x 3
  simp only [List.getElem?_toArray, List.getElem?_cons_zero, List.getElem?_cons_succ] at x0 y0 x1 y1 x2 y2 x3 y3
  go_wp2_with fail
  clear x0 y0 x1 y1 x2 y2 x3 y3
  refine (unhide HPp (unhide HWp) _ ((unhide HT).below (unhide HX).bel (unhide HT).pos)).mono ?_
  rintro e w4 ⟨G1, rfl, hge1, hG1, hb⟩
  have HGe1 := hide (And.intro hge1 (unhide HX).bel.size)
  have HX2 := hide ((unhide HX).below hb)
  have HY2 := hide ((unhide HY).below hb)
  clear HX HY
  have HX := hide (unhide HX2)
  clear HX2
  have HY := hide (unhide HY2)
  clear HY2
  have HG1 := hide hG1
  clear hb hG1 hge1
  have x0 := (unhide HX).x 0
  have y0 := (unhide HY).x 0
  have x1 := (unhide HX).x 1
  have y1 := (unhide HY).x 1
  have x2 := (unhide HX).x 2
  have y2 := (unhide HY).x 2
  have x3 := (unhide HX).x 3
  have y3 := (unhide HY).x 3
  simp only [List.getElem?_toArray, List.getElem?_cons_zero, List.getElem?_cons_succ] at x0 y0 x1 y1 x2 y2 x3 y3
  go_wp2_with fail
  clear x0 y0 x1 y1 x2 y2 x3 y3
  refine (unhide HPq (unhide HWq) _ ((unhide HT).below (unhide HX).bel (unhide HT).pos)).mono ?_
  rintro e w5 ⟨G2, rfl, hge2, hG2, hb⟩
  have HGe2 := hide (And.intro hge2 (unhide HX).bel.size)
  have HX2 := hide ((unhide HX).below hb)
  have HY2 := hide ((unhide HY).below hb)
  clear HX HY
  have HX := hide (unhide HX2)
  clear HX2
  have HY := hide (unhide HY2)
  clear HY2
  have HG1b := hide ((hb.block G1 (Array.getElem?_eq_some_iff.1 (unhide HG1)).1).trans (unhide HG1))
  have HG2 := hide hG2
  clear hb hG2 hge2 HG1
  obtain ⟨c, hc, hc2⟩ : ∃ c : Nat, max 0 (min cut 1024) = (c : Int) ∧ c ≤ 1024 := ⟨(max 0 (min cut 1024)).toNat, by omega, by omega⟩
  have hci : (c : Int) ≤ 1024 := by omega
  obtain ⟨i0, hi, hz0, hz1, hz2⟩ := info_parts info5
  have HC := hide hc2
  clear hc2
  have hlp : p.enc.length = 1024 := p.bytes_len (Pg.may (unhide HWp)).2 _
  have hlq : q.enc.length = 1024 := q.bytes_len (Pg.may (unhide HWq)).2 _
  have HLp := hide hlp
  have HLq := hide hlq
  clear hlp hlq
  have HN1 : Hid (∀ j u, (byteCells (p.enc.take c))[j]? = some u → w5.cell? ((⟨G1, 0, none⟩ : Addr).add j) = some u) := fun j u hu => by
    have hj := bc_lt hu
    have hj2 : j < p.enc.length := by rw [List.length_take] at hj; omega
    rw [bc_at _ j hj, List.getElem_take] at hu
    rw [Addr.add_mid, Nat.zero_add, cellOf (unhide HG1b), img_at _ j hj2]
    exact hu
  have HO1 : Hid (∀ u ∈ byteCells (p.enc.take c), u.oneCell' = true) := byteCells_one _
  have HK1 : Hid ((byteCells (p.enc.take c)).length = c * 1) := by show _ = _; rw [byteCells_length, List.length_take]; have := unhide HLp; have := unhide HC; omega
  generalize hn1 : byteCells (p.enc.take c) = news1 at *
  have HE1 := hide hn1
  clear hn1
  have x0 := (unhide HX).x 0
  have y0 := (unhide HY).x 0
  have x1 := (unhide HX).x 1
  have y1 := (unhide HY).x 1
  have x2 := (unhide HX).x 2
  have y2 := (unhide HY).x 2
  have x3 := (unhide HX).x 3
  have y3 := (unhide HY).x 3
  simp only [List.getElem?_toArray, List.getElem?_cons_zero, List.getElem?_cons_succ] at x0 y0 x1 y1 x2 y2 x3 y3
  go_wp2_with (at_builtin; refine wpList_put _ rfl (.tmp 65) (.tmp 68) 29 rfl w5.heap.size 5 i0 (.int .u8 0) 1 1 Tryd.underlying29 hi hz0 hz1 hz2 rfl (by decide) (.slice none 0 0) 0 [] rfl (World.ownsRow_nil _ _ _ _) ⟨G1, 0, none⟩ c 1024 news1 rfl (unhide HK1) (unhide HN1) (unhide HO1) (by unfold maxLen; omega) (by omega) (Nat.le_refl _) ?_)
  clear x0 y0 x1 y1 x2 y2 x3 y3
  intro v1 w6 hown1 hg1 hnr1
  obtain ⟨ao1, cap1, rfl⟩ := owns_shape hown1
  have HB6 : Hid (Below w5.heap.size w5 w6) := ⟨hg1.os, hg1.tape, hg1.output, hg1.size, fun k hk => hg1.block k hk (fun e => by cases e)⟩
  have HOw := hide hown1
  clear hown1 hg1 hnr1
  obtain ⟨ad2, hsl2, had2⟩ := rest_of G2 c (unhide HC)
  have HN2 : Hid (∀ j u, (byteCells (q.enc.drop c))[j]? = some u → w6.cell? (ad2.add j) = some u) := fun j u hu => by
    have hj := bc_lt hu
    rw [List.length_drop, unhide HLq] at hj
    have hj2 : c + j < q.enc.length := by have := unhide HLq; omega
    rw [bc_at _ j (bc_lt hu), List.getElem_drop] at hu
    rw [had2 j hj, (unhide HB6).cell (p := ⟨G2, c + j, none⟩) (Array.getElem?_eq_some_iff.1 (unhide HG2)).1, cellOf (unhide HG2), img_at _ _ hj2]
    exact hu
  have HO2 : Hid (∀ u ∈ byteCells (q.enc.drop c), u.oneCell' = true) := byteCells_one _
  have HK2 : Hid ((byteCells (q.enc.drop c)).length = (1024 - c) * 1) := by show _ = _; rw [byteCells_length, List.length_drop, unhide HLq]; omega
  generalize hn2 : byteCells (q.enc.drop c) = news2 at *
  have HE2 := hide hn2
  clear hn2 had2
  have hcn := unhide HC
  go_wp2_with (at_builtin; refine wpList_put _ rfl (.tmp 70) (.tmp 73) 29 rfl w5.heap.size 5 i0 (.int .u8 0) 1 1 Tryd.underlying29 hi hz0 hz1 hz2 rfl (by decide) (.slice ao1 c cap1) c news1 rfl (unhide HOw) ad2 (1024 - c) (1024 - c) news2 rfl (unhide HK2) (unhide HN2) (unhide HO2) (by unfold maxLen; omega) (by omega) (unhide HB6).size ?_)
  intro v2 w7 hown2 hg2 hnr2
  have HB7 : Hid (Below w5.heap.size w5 w7) := (unhide HB6).trans ⟨hg2.os, hg2.tape, hg2.output, hg2.size, fun k hk => hg2.block k (Nat.lt_of_lt_of_le hk (unhide HB6).size) (fun e => by have := ((unhide HOw).lt k e.symm).1; omega)⟩
  rw [← unhide HE1, ← unhide HE2, show byteCells (p.enc.take c) ++ byteCells (q.enc.drop c) = byteCells (p.enc.take c ++ q.enc.drop c) from by simp [byteCells]] at hown2
  have hlt : (p.enc.take c ++ q.enc.drop c).length = 1024 := by rw [List.length_append, List.length_take, List.length_drop, unhide HLp, unhide HLq]; omega
  obtain ⟨g, cp, rfl, hgB, hcp, hcm, hgl, hcell⟩ := own_bytes hown2 (by decide) hlt
  have hT7 := tears p q (Pg.may (unhide HWp)).2 (Pg.may (unhide HWq)).2 (unhide HFp).ser (unhide HFq).ser (by rw [unhide HS1, unhide HS2]; exact unhide HSE) c (unhide HC)
  have HEt := hide (pEnds _ hlt g 0 cp hcp hcm w7 hgl hcell)
  have hG1c := ((unhide HB7).block G1 (Array.getElem?_eq_some_iff.1 (unhide HG1b)).1).trans (unhide HG1b)
  have hG2c := ((unhide HB7).block G2 (Array.getElem?_eq_some_iff.1 (unhide HG2)).1).trans (unhide HG2)
  have HLt : Hid (LiesB w7 (some ⟨g, 0, none⟩) (p.enc.take c ++ q.enc.drop c)) := fun _ => ⟨g, 0, rfl, hgl, hcell⟩
  have HG1 := hide hG1c
  have HG2c := hide hG2c
  clear hgB hgl hcell hown2 hg2 hnr2 hcp hcm hG1c hG2c hsl2
  have hha : hd8 p.enc = s1 := by rw [hd8, (p.front8 (Pg.may (unhide HWp)).2).1, numB_fixB, Nat.mod_eq_of_lt (unhide HFp).ser]; exact unhide HS1
  have hta : tl8 p.enc = s1 := by rw [tl8, (p.front8 (Pg.may (unhide HWp)).2).2, numB_fixB, Nat.mod_eq_of_lt (unhide HFp).ser]; exact unhide HS1
  have HHT := hide (And.intro hha hta)
  have HT7 := hide hT7
  have HLL := hide hlt
  clear hha hta hT7 hlt
  have HX7 := hide ((unhide HX).below (unhide HB7))
  have HY7 := hide ((unhide HY).below (unhide HB7))
  clear HX HY HG1b HG2 HB6 HB7 HOw
  have HX := hide (unhide HX7)
  have HY := hide (unhide HY7)
  clear HX7 HY7
  generalize p.enc.take c ++ q.enc.drop c = t at *
  generalize hd8 t = h8 at *
  generalize tl8 t = t8 at *
  have x0 := (unhide HX).x 0
  have y0 := (unhide HY).x 0
  have x1 := (unhide HX).x 1
  have y1 := (unhide HY).x 1
  have x2 := (unhide HX).x 2
  have y2 := (unhide HY).x 2
  have x3 := (unhide HX).x 3
  have y3 := (unhide HY).x 3
  simp only [List.getElem?_toArray, List.getElem?_cons_zero, List.getElem?_cons_succ] at x0 y0 x1 y1 x2 y2 x3 y3
  go_wp2_with fail
  clear x0 y0 x1 y1 x2 y2 x3 y3
  refine (unhide HEt).mono ?_
  rintro e w8 ⟨rfl, hb⟩
  have HX2 := hide ((unhide HX).below hb)
  have HY2 := hide ((unhide HY).below hb)
  clear HX HY
  have HX := hide (unhide HX2)
  clear HX2
  have HY := hide (unhide HY2)
  clear HY2
  have HG1d := hide ((hb.block G1 (Array.getElem?_eq_some_iff.1 (unhide HG1)).1).trans (unhide HG1))
  have HG2d := hide ((hb.block G2 (Array.getElem?_eq_some_iff.1 (unhide HG2c)).1).trans (unhide HG2c))
  have HLd := hide ((unhide HLt).keep hb (Nat.le_refl _))
  clear hb HG1 HG2c HLt HEt
  have HEa : Hid (Calls Tryd.prog 19 #[.slice (some ⟨G1, 0, none⟩) 1024 1024] w8 fun e w' => e = .returned (.tuple #[.int .u64 (s1 : Int), .int .u64 (s1 : Int), .bool true]) ∧ Below w8.heap.size w8 w') := by
    obtain ⟨a1, a2, a3⟩ := ofEnc (unhide HWp) (unhide HG1d)
    have h := pEnds p.enc a1 G1 0 1024 (by decide) (by decide) w8 a2 a3
    rwa [(unhide HHT).1, (unhide HHT).2] at h
  have x0 := (unhide HX).x 0
  have y0 := (unhide HY).x 0
  have x1 := (unhide HX).x 1
  have y1 := (unhide HY).x 1
  have x2 := (unhide HX).x 2
  have y2 := (unhide HY).x 2
  have x3 := (unhide HX).x 3
  have y3 := (unhide HY).x 3
  simp only [List.getElem?_toArray, List.getElem?_cons_zero, List.getElem?_cons_succ] at x0 y0 x1 y1 x2 y2 x3 y3
  go_wp2_with fail
  clear x0 y0 x1 y1 x2 y2 x3 y3
  refine (unhide HEa).mono ?_
  rintro e w9 ⟨rfl, hb⟩
  have HX2 := hide ((unhide HX).below hb)
  have HY2 := hide ((unhide HY).below hb)
  clear HX HY
  have HX := hide (unhide HX2)
  clear HX2
  have HY := hide (unhide HY2)
  clear HY2
  have hc1 := conv_img ((hb.block G1 (Array.getElem?_eq_some_iff.1 (unhide HG1d)).1).trans (unhide HG1d)) (unhide HLp)
  have hc2 := conv_img ((hb.block G2 (Array.getElem?_eq_some_iff.1 (unhide HG2d)).1).trans (unhide HG2d)) (unhide HLq)
  have hc3 := conv_lies (cap := cp) ((unhide HLd).keep hb (Nat.le_refl _)) (by rw [unhide HLL]; decide)
  rw [unhide HLL] at hc3
  clear hb HEa HG1d HG2d HLd
  have inj : ∀ a b : List UInt8, ((⟨a.toArray⟩ : ByteArray) = ⟨b.toArray⟩) ↔ a = b := fun a b => by simp
  by_cases h1 : t = p.enc
  · obtain rfl : h8 = t8 := (unhide HT7).2 (.inl h1)
    subst h1
    generalize (⟨p.enc.toArray⟩ : ByteArray) = A at *
    generalize (⟨q.enc.toArray⟩ : ByteArray) = B at *
    clear inj HT7
    have x0 := (unhide HX).x 0
    have y0 := (unhide HY).x 0
    have x1 := (unhide HX).x 1
    have y1 := (unhide HY).x 1
    have x2 := (unhide HX).x 2
    have y2 := (unhide HY).x 2
    have x3 := (unhide HX).x 3
    have y3 := (unhide HY).x 3
    simp only [List.getElem?_toArray, List.getElem?_cons_zero, List.getElem?_cons_succ] at x0 y0 x1 y1 x2 y2 x3 y3
    go_wp2
    go_ret
    exact ⟨rfl, (unhide HX).bel⟩
  have n1x : ¬ (⟨t.toArray⟩ : ByteArray) = ⟨p.enc.toArray⟩ := fun h => h1 ((inj _ _).1 h)
  by_cases h2 : t = q.enc
  · obtain rfl : h8 = t8 := (unhide HT7).2 (.inr h2)
    subst h2
    generalize (⟨p.enc.toArray⟩ : ByteArray) = A at *
    generalize (⟨q.enc.toArray⟩ : ByteArray) = B at *
    clear inj HT7 h1
    have m1 := toList_ne n1x
    have x0 := (unhide HX).x 0
    have y0 := (unhide HY).x 0
    have x1 := (unhide HX).x 1
    have y1 := (unhide HY).x 1
    have x2 := (unhide HX).x 2
    have y2 := (unhide HY).x 2
    have x3 := (unhide HX).x 3
    have y3 := (unhide HY).x 3
    simp only [List.getElem?_toArray, List.getElem?_cons_zero, List.getElem?_cons_succ] at x0 y0 x1 y1 x2 y2 x3 y3
    go_wp2
    all_goals (go_ret; exact ⟨rfl, (unhide HX).bel⟩)
  have n2x : ¬ (⟨t.toArray⟩ : ByteArray) = ⟨q.enc.toArray⟩ := fun h => h2 ((inj _ _).1 h)
  have n3x : ¬ (h8 : Int) = (t8 : Int) := fun h => by
    rcases (unhide HT7).1 (by omega) with h3 | h3
    · exact h1 h3
    · exact h2 h3
  generalize (⟨t.toArray⟩ : ByteArray) = T at *
  generalize (⟨p.enc.toArray⟩ : ByteArray) = A at *
  generalize (⟨q.enc.toArray⟩ : ByteArray) = B at *
  clear inj HT7 h1 h2
  have m1 := toList_ne n1x
  have m2 := toList_ne n2x
  have HFn : Hid (((((h8 : Nat) : Int) == ((t8 : Nat) : Int)) == (T.toList == A.toList || T.toList == B.toList)) = true) := by show _ = _; rw [beq_eq_false_iff_ne.2 n3x, beq_eq_false_iff_ne.2 m1, beq_eq_false_iff_ne.2 m2]; rfl
  have x0 := (unhide HX).x 0
  have y0 := (unhide HY).x 0
  have x1 := (unhide HX).x 1
  have y1 := (unhide HY).x 1
  have x2 := (unhide HX).x 2
  have y2 := (unhide HY).x 2
  have x3 := (unhide HX).x 3
  have y3 := (unhide HY).x 3
  simp only [List.getElem?_toArray, List.getElem?_cons_zero, List.getElem?_cons_succ] at x0 y0 x1 y1 x2 y2 x3 y3
  go_wp2
  all_goals (go_ret; first | exact ⟨rfl, (unhide HX).bel⟩ | exact ⟨congrArg (fun b => Ending.returned (Value.bool b)) (unhide HFn), (unhide HX).bel⟩)
end Go.Proofs.YtkmcjjlkammlaaaDoor
