/- The walk of PageBack. -/
import Derived.Test.YtkmcjjlkammlaaaDoorPu
namespace Go.Proofs.YtkmcjjlkammlaaaDoor
open Go.RowKit Go.Lib

theorem dec_ok {l : List UInt8} {num : Nat} (h : (dec l num).2 = 0) : (dec l num).1.Fit ∧ (dec l num).1.wrong = 0 ∧ (dec l num).1.enc = l ∧ (dec l num).1.num = num ∧ l.length = 1024 := by
  classical
  by_cases h0 : l.length = 1024
  · rw [dec, if_neg (by simpa using h0)] at h ⊢
    by_cases h1 : l = zeros 1024
    · rw [if_pos h1] at h; simp at h
    · rw [if_neg h1] at h ⊢
      by_cases h2 : (claim ⟨l.toArray⟩).num = num ∧ (claim ⟨l.toArray⟩).wrong = 0 ∧ (claim ⟨l.toArray⟩).enc = l
      · rw [if_pos h2] at h ⊢
        exact ⟨claim_fit _ (by rw [← size_toList]; exact h0), h2.2.1, h2.2.2, h2.1, h0⟩
      · rw [if_neg h2] at h; simp at h
  · rw [dec, if_pos h0] at h; simp at h
theorem dec_bad {l : List UInt8} {num : Nat} (h : (dec l num).2 ≠ 0) : (dec l num).1 = Pg.zero := by
  classical
  by_cases h0 : l.length = 1024
  · rw [dec, if_neg (by simpa using h0)] at h ⊢
    by_cases h1 : l = zeros 1024
    · rw [if_pos h1]
    · rw [if_neg h1] at h ⊢
      by_cases h2 : (claim ⟨l.toArray⟩).num = num ∧ (claim ⟨l.toArray⟩).wrong = 0 ∧ (claim ⟨l.toArray⟩).enc = l
      · rw [if_pos h2] at h; simp at h
      · rw [if_neg h2]
  · rw [dec, if_pos h0]
theorem conv_lies {u : World} {ao : Option Addr} {l : List UInt8} {cap : Nat} (h : LiesB u ao l) (h0 : 0 < l.length) : (convert 29 9 (.slice ao l.length cap)).run Tryd.prog u = .ok (.string ⟨l.toArray⟩) u := by
  obtain ⟨g, o, rfl, _, hc⟩ := h h0
  exact run_convert_bytes_back u 29 9 5 ⟨g, o, none⟩ cap l Tryd.underlying29 Tryd.underlying5 Tryd.underlying9 fun j hj => by rw [Addr.add_mid]; exact hc j hj
set_option maxRecDepth 100000 in
set_option maxHeartbeats 4000000 in
theorem back_walk (p : Pg) (hf : p.Fit) (l : List UInt8) (ao : Option Addr) (cap num : Nat) (w : World) (hl : LiesB w ao l) (hT : Tab w) :
    Calls Tryd.prog 6 #[.agg p.cs, .slice ao l.length cap, .int .u32 (num : Int)] w fun e w' => e = .returned (.bool true) ∧ Below w.heap.size w w' := by
  have HT := hide hT
  have HL := hide hl
  have HAw := hide (fun u (hu : Tab u) => awake_ok u hu)
  have HDb := hide (fun u (hb : Below w.heap.size w u) => pDecAny l ao cap num u (hl.keep hb (Nat.le_refl _)) (hT.below hb hT.pos))
  have hOk : (dec l num).2 = 0 → (dec l num).1.Fit ∧ (dec l num).1.wrong = 0 ∧ (dec l num).1.enc = l ∧ (dec l num).1.num = num ∧ l.length = 1024 := dec_ok
  have hBad : (dec l num).2 ≠ 0 → (dec l num).1 = Pg.zero := dec_bad
  generalize dec l num = dq at *
  obtain ⟨q, e2⟩ := dq
  simp only at HDb hOk hBad
  have HM := hide (fun u => mMay p u)
  have HE := hide (fun u (hu : Tab u) => pEncAny p hf u hu)
  obtain ⟨n1, hn1, hne⟩ : ∃ n1 : Nat, IntKind.u32.wrap ((p.num : Int) + 1) = (n1 : Int) ∧ p.num ≠ n1 := by
    have := hf.num
    by_cases h : p.num + 1 < 4294967296
    · exact ⟨p.num + 1, by rw [IntKind.wrap_u32]; omega, by omega⟩
    · exact ⟨0, by rw [IntKind.wrap_u32]; omega, by omega⟩
  have HD1 := hide (fun (hw : p.wrong = 0) u G (hu : Tab u) (hG : u.heap[G]? = some (.cells (img p.enc) 52 (0, 0))) => (by
    obtain ⟨h1, h2⟩ := EncV.lies hw hG
    have h := pDecAny p.enc (some ⟨G, 0, none⟩) 1024 p.num u h1 hu
    rw [h2, dec_enc p hf hw] at h
    exact h : Calls Tryd.prog 14 #[.slice (some ⟨G, 0, none⟩) 1024 1024, .int .u32 (p.num : Int)] u fun e w' => e = .returned (.tuple #[.agg p.cs, .int .i64 0]) ∧ Below u.heap.size u w'))
  have HD2 := hide (fun (hw : p.wrong = 0) u G (hu : Tab u) (hG : u.heap[G]? = some (.cells (img p.enc) 52 (0, 0))) => (by
    obtain ⟨h1, h2⟩ := EncV.lies hw hG
    have h := pDecAny p.enc (some ⟨G, 0, none⟩) 1024 n1 u h1 hu
    rw [h2, dec_other p hf hw n1 hne, ← hn1] at h
    exact h : Calls Tryd.prog 14 #[.slice (some ⟨G, 0, none⟩) 1024 1024, .int .u32 (IntKind.u32.wrap ((p.num : Int) + 1))] u fun e w' => e = .returned (.tuple #[.agg #[.int .u8 0, .int .u32 0, .int .u64 0, .string ⟨#[]⟩], .int .i64 50]) ∧ Below u.heap.size u w'))
  have EP : p.cs = #[.int .u8 (p.kind : Int), .int .u32 (p.num : Int), .int .u64 (p.ser : Int), .string p.body] := rfl
  have EQ : q.cs = #[.int .u8 (q.kind : Int), .int .u32 (q.num : Int), .int .u64 (q.ser : Int), .string q.body] := rfl
  rw [EP] at HM HE HD1
  rw [EQ] at HDb
  rw [EP]
  have HX := hide (Xb.start w #[.int .u8 (p.kind : Int), .int .u32 (p.num : Int), .int .u64 (p.ser : Int), .string p.body] 25)
  have HOk := hide hOk
  have HBad := hide hBad
  have HEQ := hide EQ
  clear hf hne hl hT EP hOk hBad EQ hn1
  generalize p.kind = kd at *
  generalize p.num = nm at *
  generalize p.ser = sr at *
  generalize p.body = bd at *
  go_enter Tryd.func6, Tryd.ntmps6
  go_wp2_with fail
  generalize (w.alloc (.cells #[.int .u8 (kd : Int), .int .u32 (nm : Int), .int .u64 (sr : Int), .string bd] 25)) = w0 at *
  refine (unhide HAw _ ((unhide HT).below (unhide HX).bel (unhide HT).pos)).mono ?_
  rintro e w1 ⟨rfl, hb⟩
  have HX2 := hide ((unhide HX).below hb)
  clear HX
  have HX := hide (unhide HX2)
  clear HX2
  clear hb HAw
  have x0 := (unhide HX).x 0
  have x1 := (unhide HX).x 1
  have x2 := (unhide HX).x 2
  have x3 := (unhide HX).x 3
  simp only [List.getElem?_toArray, List.getElem?_cons_zero, List.getElem?_cons_succ] at x0 x1 x2 x3
  go_wp2_with fail
  clear x0 x1 x2 x3
  refine (unhide HE _ ((unhide HT).below (unhide HX).bel (unhide HT).pos)).mono ?_
  rintro e w2 ⟨v, rfl, hv, hb⟩
  have HX2 := hide ((unhide HX).below hb)
  clear HX
  have HX := hide (unhide HX2)
  clear HX2
  clear hb HE
  have HV := hide hv
  clear hv
  by_cases hw : p.wrong = 0
  · obtain ⟨G, hvG, hG⟩ : ∃ G, v = .slice (some ⟨G, 0, none⟩) 1024 1024 ∧ w2.heap[G]? = some (.cells (img p.enc) 52 (0, 0)) := by
      rcases unhide HV with ⟨h, _⟩ | ⟨_, G, h1, _, h2⟩
      · exact absurd hw h
      · exact ⟨G, h1, h2⟩
    subst hvG
    have HW := hide hw
    rw [hw, decide_eq_true rfl] at HM
    rw [hw]
    have HG := hide hG
    clear hG HV
    have x0 := (unhide HX).x 0
    have x1 := (unhide HX).x 1
    have x2 := (unhide HX).x 2
    have x3 := (unhide HX).x 3
    simp only [List.getElem?_toArray, List.getElem?_cons_zero, List.getElem?_cons_succ] at x0 x1 x2 x3
    go_wp2_with fail
    clear x0 x1 x2 x3
    refine (unhide HM _).mono ?_
    rintro e w3 ⟨rfl, hb⟩
    have HX2 := hide ((unhide HX).below hb)
    clear HX
    have HX := hide (unhide HX2)
    clear HX2
    have HG3 := hide ((hb.block G (Array.getElem?_eq_some_iff.1 (unhide HG)).1).trans (unhide HG))
    clear hb HM HG
    have x0 := (unhide HX).x 0
    have x1 := (unhide HX).x 1
    have x2 := (unhide HX).x 2
    have x3 := (unhide HX).x 3
    simp only [List.getElem?_toArray, List.getElem?_cons_zero, List.getElem?_cons_succ] at x0 x1 x2 x3
    go_wp2_with fail
    clear x0 x1 x2 x3
    refine (unhide HD1 (unhide HW) _ G ((unhide HT).below (unhide HX).bel (unhide HT).pos) (unhide HG3)).mono ?_
    rintro e w4 ⟨rfl, hb⟩
    have HX2 := hide ((unhide HX).below hb)
    clear HX
    have HX := hide (unhide HX2)
    clear HX2
    have HG4 := hide ((hb.block G (Array.getElem?_eq_some_iff.1 (unhide HG3)).1).trans (unhide HG3))
    clear hb HD1 HG3
    have HQ := hide (show Xb w (w4.alloc (.cells #[.int .u8 (kd : Int), .int .u32 (nm : Int), .int .u64 (sr : Int), .string bd] 25)) w4.heap.size #[.int .u8 (kd : Int), .int .u32 (nm : Int), .int .u64 (sr : Int), .string bd] from ⟨(Xb.start w4 #[.int .u8 (kd : Int), .int .u32 (nm : Int), .int .u64 (sr : Int), .string bd] 25).x, (Xb.start w4 #[.int .u8 (kd : Int), .int .u32 (nm : Int), .int .u64 (sr : Int), .string bd] 25).xl, (unhide HX).bel.trans ((Xb.start w4 #[.int .u8 (kd : Int), .int .u32 (nm : Int), .int .u64 (sr : Int), .string bd] 25).bel.mono (unhide HX).bel.size)⟩)
    have HXn := hide ((unhide HX).below (Xb.start w4 #[.int .u8 (kd : Int), .int .u32 (nm : Int), .int .u64 (sr : Int), .string bd] 25).bel)
    have HG4n := hide (((Xb.start w4 #[.int .u8 (kd : Int), .int .u32 (nm : Int), .int .u64 (sr : Int), .string bd] 25).bel.block G (Array.getElem?_eq_some_iff.1 (unhide HG4)).1).trans (unhide HG4))
    have n0 := (unhide HXn).x 0
    have n1x := (unhide HXn).x 1
    have n2 := (unhide HXn).x 2
    have n3 := (unhide HXn).x 3
    simp only [List.getElem?_toArray, List.getElem?_cons_zero, List.getElem?_cons_succ] at n0 n1x n2 n3
    have hxl2 := (unhide HX).xl
    have x0 := (unhide HX).x 0
    have x1 := (unhide HX).x 1
    have x2 := (unhide HX).x 2
    have x3 := (unhide HX).x 3
    simp only [List.getElem?_toArray, List.getElem?_cons_zero, List.getElem?_cons_succ] at x0 x1 x2 x3
    go_wp2_with fail
    clear x0 x1 x2 x3
    clear n0 n1x n2 n3 hxl2
    generalize (w4.alloc (.cells #[.int .u8 (kd : Int), .int .u32 (nm : Int), .int .u64 (sr : Int), .string bd] 25)) = u4 at *
    clear HX HG4
    have HX := hide (unhide HXn)
    clear HXn
    have HG4 := hide (unhide HG4n)
    clear HG4n
    refine (unhide HD2 (unhide HW) _ G ((unhide HT).below (unhide HX).bel (unhide HT).pos) (unhide HG4)).mono ?_
    rintro e w5 ⟨rfl, hb⟩
    have HX2 := hide ((unhide HX).below hb)
    clear HX
    have HX := hide (unhide HX2)
    clear HX2
    have HQ5 := hide ((unhide HQ).below hb)
    clear hb HD2 HG4 HQ
    have y0 := (unhide HQ5).x 0
    have y1 := (unhide HQ5).x 1
    have y2 := (unhide HQ5).x 2
    have y3 := (unhide HQ5).x 3
    simp only [List.getElem?_toArray, List.getElem?_cons_zero, List.getElem?_cons_succ] at y0 y1 y2 y3
    have hyl := (unhide HQ5).xl
    have hxl := (unhide HX).xl
    have HQ6 := hide (show Xb w (w5.alloc (.cells #[.int .u8 0, .int .u32 0, .int .u64 0, .string ⟨#[]⟩] 25)) w5.heap.size #[.int .u8 0, .int .u32 0, .int .u64 0, .string ⟨#[]⟩] from ⟨(Xb.start w5 #[.int .u8 0, .int .u32 0, .int .u64 0, .string ⟨#[]⟩] 25).x, (Xb.start w5 #[.int .u8 0, .int .u32 0, .int .u64 0, .string ⟨#[]⟩] 25).xl, (unhide HX).bel.trans ((Xb.start w5 #[.int .u8 0, .int .u32 0, .int .u64 0, .string ⟨#[]⟩] 25).bel.mono (unhide HX).bel.size)⟩)
    have HXn := hide ((unhide HX).below (Xb.start w5 #[.int .u8 0, .int .u32 0, .int .u64 0, .string ⟨#[]⟩] 25).bel)
    have n0 := (unhide HXn).x 0
    have n1x := (unhide HXn).x 1
    have n2 := (unhide HXn).x 2
    have n3 := (unhide HXn).x 3
    simp only [List.getElem?_toArray, List.getElem?_cons_zero, List.getElem?_cons_succ] at n0 n1x n2 n3
    have hxl2 := (unhide HX).xl
    have x0 := (unhide HX).x 0
    have x1 := (unhide HX).x 1
    have x2 := (unhide HX).x 2
    have x3 := (unhide HX).x 3
    simp only [List.getElem?_toArray, List.getElem?_cons_zero, List.getElem?_cons_succ] at x0 x1 x2 x3
    go_wp2_with fail
    clear x0 x1 x2 x3
    clear n0 n1x n2 n3 hxl2
    generalize (w5.alloc (.cells #[.int .u8 0, .int .u32 0, .int .u64 0, .string ⟨#[]⟩] 25)) = u5 at *
    clear HX
    have HX := hide (unhide HXn)
    clear HXn
    clear y0 y1 y2 y3 hyl hxl HQ5 HQ6
    by_cases he : e2 = 0
    · obtain ⟨g1, g2, g3, g4, g5⟩ := unhide HOk he
      subst he
      have HEq := hide (fun u (hu : Tab u) => pEncode q g1 g2 u hu)
      have HMq := hide (fun u => mMay q u)
      rw [g2, decide_eq_true rfl] at HMq
      rw [g3] at HEq
      rw [unhide HEQ] at HEq HMq
      have hcb := fun u (hb : Below w.heap.size w u) => conv_lies (cap := cap) ((unhide HL).keep hb (Nat.le_refl _)) (by omega)
      have HCB := hide hcb
      have HLE := hide g5
      have hqm := g4
      clear hcb g1 g2 g3 g4 g5 HOk HBad HEQ
      generalize q.kind = k2 at *
      generalize q.num = m2 at *
      obtain rfl := hqm.symm
      clear hqm
      generalize q.ser = s2 at *
      generalize q.body = b2 at *
      refine (unhide HDb _ (unhide HX).bel).mono ?_
      rintro e w6 ⟨rfl, hb⟩
      have HX2 := hide ((unhide HX).below hb)
      clear HX
      have HX := hide (unhide HX2)
      clear HX2
      clear hb HDb
      have HQ := hide (show Xb w (w6.alloc (.cells #[.int .u8 (k2 : Int), .int .u32 (num : Int), .int .u64 (s2 : Int), .string b2] 25)) w6.heap.size #[.int .u8 (k2 : Int), .int .u32 (num : Int), .int .u64 (s2 : Int), .string b2] from ⟨(Xb.start w6 #[.int .u8 (k2 : Int), .int .u32 (num : Int), .int .u64 (s2 : Int), .string b2] 25).x, (Xb.start w6 #[.int .u8 (k2 : Int), .int .u32 (num : Int), .int .u64 (s2 : Int), .string b2] 25).xl, (unhide HX).bel.trans ((Xb.start w6 #[.int .u8 (k2 : Int), .int .u32 (num : Int), .int .u64 (s2 : Int), .string b2] 25).bel.mono (unhide HX).bel.size)⟩)
      have HXn := hide ((unhide HX).below (Xb.start w6 #[.int .u8 (k2 : Int), .int .u32 (num : Int), .int .u64 (s2 : Int), .string b2] 25).bel)
      have n0 := (unhide HXn).x 0
      have n1x := (unhide HXn).x 1
      have n2 := (unhide HXn).x 2
      have n3 := (unhide HXn).x 3
      simp only [List.getElem?_toArray, List.getElem?_cons_zero, List.getElem?_cons_succ] at n0 n1x n2 n3
      have hxl2 := (unhide HX).xl
      have x0 := (unhide HX).x 0
      have x1 := (unhide HX).x 1
      have x2 := (unhide HX).x 2
      have x3 := (unhide HX).x 3
      simp only [List.getElem?_toArray, List.getElem?_cons_zero, List.getElem?_cons_succ] at x0 x1 x2 x3
      go_wp2_with fail
      clear x0 x1 x2 x3
      clear n0 n1x n2 n3 hxl2
      generalize (w6.alloc (.cells #[.int .u8 (k2 : Int), .int .u32 (num : Int), .int .u64 (s2 : Int), .string b2] 25)) = u6 at *
      clear HX
      have HX := hide (unhide HXn)
      clear HXn
      refine (unhide HEq _ ((unhide HT).below (unhide HX).bel (unhide HT).pos)).mono ?_
      rintro e w7 ⟨G2, rfl, _, hG2, hb⟩
      have HX2 := hide ((unhide HX).below hb)
      clear HX
      have HX := hide (unhide HX2)
      clear HX2
      have HQ7 := hide ((unhide HQ).below hb)
      clear hb HQ HEq
      have hcb := unhide HCB w7 (unhide HX).bel
      have hcd := conv_img hG2 (unhide HLE)
      clear hG2
      have y0 := (unhide HQ7).x 0
      have y1 := (unhide HQ7).x 1
      have y2 := (unhide HQ7).x 2
      have y3 := (unhide HQ7).x 3
      simp only [List.getElem?_toArray, List.getElem?_cons_zero, List.getElem?_cons_succ] at y0 y1 y2 y3
      generalize (⟨l.toArray⟩ : ByteArray) = T at *
      have x0 := (unhide HX).x 0
      have x1 := (unhide HX).x 1
      have x2 := (unhide HX).x 2
      have x3 := (unhide HX).x 3
      simp only [List.getElem?_toArray, List.getElem?_cons_zero, List.getElem?_cons_succ] at x0 x1 x2 x3
      go_wp2_with fail
      clear x0 x1 x2 x3
      refine (unhide HMq _).mono ?_
      rintro e w8 ⟨rfl, hb⟩
      have HB8 := hide ((unhide HX).bel.trans (hb.mono (unhide HX).bel.size))
      clear hb
      go_wp2
      go_ret
      exact ⟨rfl, unhide HB8⟩
    · obtain rfl := unhide HBad he
      have HDz : Hid (∀ u, Below w.heap.size w u → Calls Tryd.prog 14 #[.slice ao l.length cap, .int .u32 (num : Int)] u fun e w' => e = .returned (.tuple #[.agg #[.int .u8 0, .int .u32 0, .int .u64 0, .string ⟨#[]⟩], .int .i64 e2]) ∧ Below u.heap.size u w') := unhide HDb
      have hei : ¬ e2 = 0 := he
      clear he HOk HBad HDb HEQ
      refine (unhide HDz _ (unhide HX).bel).mono ?_
      rintro e w6 ⟨rfl, hb⟩
      have HX2 := hide ((unhide HX).below hb)
      clear HX
      have HX := hide (unhide HX2)
      clear HX2
      clear hb HDz
      have HB6 := hide ((unhide HX).bel.alloc (unhide HX).bel.size (.cells #[.int .u8 0, .int .u32 0, .int .u64 0, .string ⟨#[]⟩] 25))
      have x0 := (unhide HX).x 0
      have x1 := (unhide HX).x 1
      have x2 := (unhide HX).x 2
      have x3 := (unhide HX).x 3
      simp only [List.getElem?_toArray, List.getElem?_cons_zero, List.getElem?_cons_succ] at x0 x1 x2 x3
      go_wp2
      go_ret
      exact ⟨rfl, unhide HB6⟩
  · obtain rfl : v = .slice none 0 0 := by
      rcases unhide HV with ⟨_, h⟩ | ⟨h, _⟩
      · exact h
      · exact absurd h hw
    have hwi : ¬ p.wrong = 0 := hw
    rw [decide_eq_false hw] at HM
    generalize p.wrong = r at *
    clear hw HV HD1 HD2
    have x0 := (unhide HX).x 0
    have x1 := (unhide HX).x 1
    have x2 := (unhide HX).x 2
    have x3 := (unhide HX).x 3
    simp only [List.getElem?_toArray, List.getElem?_cons_zero, List.getElem?_cons_succ] at x0 x1 x2 x3
    go_wp2_with fail
    clear x0 x1 x2 x3
    refine (unhide HM _).mono ?_
    rintro e w3 ⟨rfl, hb⟩
    have HX2 := hide ((unhide HX).below hb)
    clear HX
    have HX := hide (unhide HX2)
    clear HX2
    clear hb HM
    have x0 := (unhide HX).x 0
    have x1 := (unhide HX).x 1
    have x2 := (unhide HX).x 2
    have x3 := (unhide HX).x 3
    simp only [List.getElem?_toArray, List.getElem?_cons_zero, List.getElem?_cons_succ] at x0 x1 x2 x3
    go_wp2_with fail
    clear x0 x1 x2 x3
    by_cases he : e2 = 0
    · obtain ⟨g1, g2, g3, g4, g5⟩ := unhide HOk he
      subst he
      have HEq := hide (fun u (hu : Tab u) => pEncode q g1 g2 u hu)
      have HMq := hide (fun u => mMay q u)
      rw [g2, decide_eq_true rfl] at HMq
      rw [g3] at HEq
      rw [unhide HEQ] at HEq HMq
      have hcb := fun u (hb : Below w.heap.size w u) => conv_lies (cap := cap) ((unhide HL).keep hb (Nat.le_refl _)) (by omega)
      have HCB := hide hcb
      have HLE := hide g5
      have hqm := g4
      clear hcb g1 g2 g3 g4 g5 HOk HBad HEQ
      generalize q.kind = k2 at *
      generalize q.num = m2 at *
      obtain rfl := hqm.symm
      clear hqm
      generalize q.ser = s2 at *
      generalize q.body = b2 at *
      refine (unhide HDb _ (unhide HX).bel).mono ?_
      rintro e w6 ⟨rfl, hb⟩
      have HX2 := hide ((unhide HX).below hb)
      clear HX
      have HX := hide (unhide HX2)
      clear HX2
      clear hb HDb
      have HQ := hide (show Xb w (w6.alloc (.cells #[.int .u8 (k2 : Int), .int .u32 (num : Int), .int .u64 (s2 : Int), .string b2] 25)) w6.heap.size #[.int .u8 (k2 : Int), .int .u32 (num : Int), .int .u64 (s2 : Int), .string b2] from ⟨(Xb.start w6 #[.int .u8 (k2 : Int), .int .u32 (num : Int), .int .u64 (s2 : Int), .string b2] 25).x, (Xb.start w6 #[.int .u8 (k2 : Int), .int .u32 (num : Int), .int .u64 (s2 : Int), .string b2] 25).xl, (unhide HX).bel.trans ((Xb.start w6 #[.int .u8 (k2 : Int), .int .u32 (num : Int), .int .u64 (s2 : Int), .string b2] 25).bel.mono (unhide HX).bel.size)⟩)
      have HXn := hide ((unhide HX).below (Xb.start w6 #[.int .u8 (k2 : Int), .int .u32 (num : Int), .int .u64 (s2 : Int), .string b2] 25).bel)
      have n0 := (unhide HXn).x 0
      have n1x := (unhide HXn).x 1
      have n2 := (unhide HXn).x 2
      have n3 := (unhide HXn).x 3
      simp only [List.getElem?_toArray, List.getElem?_cons_zero, List.getElem?_cons_succ] at n0 n1x n2 n3
      have hxl2 := (unhide HX).xl
      have x0 := (unhide HX).x 0
      have x1 := (unhide HX).x 1
      have x2 := (unhide HX).x 2
      have x3 := (unhide HX).x 3
      simp only [List.getElem?_toArray, List.getElem?_cons_zero, List.getElem?_cons_succ] at x0 x1 x2 x3
      go_wp2_with fail
      clear x0 x1 x2 x3
      clear n0 n1x n2 n3 hxl2
      generalize (w6.alloc (.cells #[.int .u8 (k2 : Int), .int .u32 (num : Int), .int .u64 (s2 : Int), .string b2] 25)) = u6 at *
      clear HX
      have HX := hide (unhide HXn)
      clear HXn
      refine (unhide HEq _ ((unhide HT).below (unhide HX).bel (unhide HT).pos)).mono ?_
      rintro e w7 ⟨G2, rfl, _, hG2, hb⟩
      have HX2 := hide ((unhide HX).below hb)
      clear HX
      have HX := hide (unhide HX2)
      clear HX2
      have HQ7 := hide ((unhide HQ).below hb)
      clear hb HQ HEq
      have hcb := unhide HCB w7 (unhide HX).bel
      have hcd := conv_img hG2 (unhide HLE)
      clear hG2
      have y0 := (unhide HQ7).x 0
      have y1 := (unhide HQ7).x 1
      have y2 := (unhide HQ7).x 2
      have y3 := (unhide HQ7).x 3
      simp only [List.getElem?_toArray, List.getElem?_cons_zero, List.getElem?_cons_succ] at y0 y1 y2 y3
      generalize (⟨l.toArray⟩ : ByteArray) = T at *
      have x0 := (unhide HX).x 0
      have x1 := (unhide HX).x 1
      have x2 := (unhide HX).x 2
      have x3 := (unhide HX).x 3
      simp only [List.getElem?_toArray, List.getElem?_cons_zero, List.getElem?_cons_succ] at x0 x1 x2 x3
      go_wp2_with fail
      clear x0 x1 x2 x3
      refine (unhide HMq _).mono ?_
      rintro e w8 ⟨rfl, hb⟩
      have HB8 := hide ((unhide HX).bel.trans (hb.mono (unhide HX).bel.size))
      clear hb
      go_wp2
      go_ret
      exact ⟨rfl, unhide HB8⟩
    · obtain rfl := unhide HBad he
      have HDz : Hid (∀ u, Below w.heap.size w u → Calls Tryd.prog 14 #[.slice ao l.length cap, .int .u32 (num : Int)] u fun e w' => e = .returned (.tuple #[.agg #[.int .u8 0, .int .u32 0, .int .u64 0, .string ⟨#[]⟩], .int .i64 e2]) ∧ Below u.heap.size u w') := unhide HDb
      have hei : ¬ e2 = 0 := he
      clear he HOk HBad HDb HEQ
      refine (unhide HDz _ (unhide HX).bel).mono ?_
      rintro e w6 ⟨rfl, hb⟩
      have HX2 := hide ((unhide HX).below hb)
      clear HX
      have HX := hide (unhide HX2)
      clear HX2
      clear hb HDz
      have HB6 := hide ((unhide HX).bel.alloc (unhide HX).bel.size (.cells #[.int .u8 0, .int .u32 0, .int .u64 0, .string ⟨#[]⟩] 25))
      have x0 := (unhide HX).x 0
      have x1 := (unhide HX).x 1
      have x2 := (unhide HX).x 2
      have x3 := (unhide HX).x 3
      simp only [List.getElem?_toArray, List.getElem?_cons_zero, List.getElem?_cons_succ] at x0 x1 x2 x3
      go_wp2
      go_ret
      exact ⟨rfl, unhide HB6⟩
theorem back_all (p : Pg) (hf : p.Fit) (l : List UInt8) (ao : Option Addr) (cap : Nat) (num : Int) (hnum : 0 ≤ num) (w : World) (hl : LiesB w ao l) (hT : Tab w) :
    Calls Tryd.prog 6 #[.agg p.cs, .slice ao l.length cap, .int .u32 num] w fun e w' => e = .returned (.bool true) ∧ Below w.heap.size w w' := by
  obtain ⟨n, rfl⟩ := Int.eq_ofNat_of_zero_le hnum
  exact back_walk p hf l ao cap n w hl hT
end Go.Proofs.YtkmcjjlkammlaaaDoor
