/- The page: awake, may. -/
import Derived.Test.YtkmcjjlkammlaaaDoorPq
namespace Go.Proofs.YtkmcjjlkammlaaaDoor
open Go.RowKit Go.Lib

theorem mMay (p : Pg) (w : World) : Calls Tryd.prog 18 #[.agg p.cs] w fun e w' => e = .returned (.bool (decide (p.wrong = 0))) ∧ Below w.heap.size w w' := by
  obtain ⟨kind, num, ser, body⟩ := p
  show Calls Tryd.prog 18 #[.agg #[.int .u8 (kind : Int), .int .u32 (num : Int), .int .u64 (ser : Int), .string body]] w _
  have HB := hide ((Below.refl w.heap.size w).alloc (Nat.le_refl _) (.cells #[.int .u8 (kind : Int), .int .u32 (num : Int), .int .u64 (ser : Int), .string body] 25))
  by_cases h1 : 4611686018427387904 < ser
  · have e : Pg.wrong ⟨kind, num, ser, body⟩ = 1 := if_pos h1
    rw [e]
    have h1i : ¬ (ser : Int) ≤ 4611686018427387904 := by omega
    clear e h1
    go_enter Tryd.func18, Tryd.ntmps18
    go_wp2
    go_ret
    exact ⟨rfl, unhide HB⟩
  · by_cases h2 : 996 < body.size
    · have e : Pg.wrong ⟨kind, num, ser, body⟩ = 82 := by rw [Pg.wrong, if_neg h1, if_pos h2]
      rw [e]
      have h1i : (ser : Int) ≤ 4611686018427387904 := by omega
      have h2i : ¬ (body.size : Int) ≤ 996 := by omega
      clear e h1 h2
      go_enter Tryd.func18, Tryd.ntmps18
      go_wp2
      go_ret
      exact ⟨rfl, unhide HB⟩
    · have e : Pg.wrong ⟨kind, num, ser, body⟩ = 0 := by rw [Pg.wrong, if_neg h1, if_neg h2]
      rw [e]
      have h1i : (ser : Int) ≤ 4611686018427387904 := by omega
      have h2i : (body.size : Int) ≤ 996 := by omega
      clear e h1 h2
      go_enter Tryd.func18, Tryd.ntmps18
      go_wp2
      go_ret
      exact ⟨rfl, unhide HB⟩
def p0 : Pg := ⟨2, 7, 258, ⟨#[97, 98]⟩⟩
theorem p0_fit : p0.Fit := ⟨by decide, by decide, by decide⟩
theorem p0_ok : p0.wrong = 0 := by decide
theorem EncV.lies {u : World} {p : Pg} {G : Nat} (hw : p.wrong = 0) (h : u.heap[G]? = some (.cells (img p.enc) 52 (0, 0))) : LiesB u (some ⟨G, 0, none⟩) p.enc ∧ p.enc.length = 1024 := by
  have hl : p.enc.length = 1024 := p.bytes_len (Pg.may hw).2 _
  exact ⟨fun _ => ⟨G, 0, rfl, (Array.getElem?_eq_some_iff.1 h).1, fun j hj => by rw [Nat.zero_add, cellOf h, img_at _ j hj]⟩, hl⟩
set_option maxRecDepth 100000 in
theorem awake_ok (w : World) (hT : Tab w) : Calls Tryd.prog 17 #[] w fun e w' => e = .returned (.bool true) ∧ Below w.heap.size w w' := by
  have HT := hide hT
  have HE : Hid (∀ u, Tab u → Calls Tryd.prog 10 #[.agg #[.int .u8 2, .int .u32 7, .int .u64 258, .string ⟨#[97, 98]⟩]] u fun e w' => ∃ G, e = .returned (.tuple #[.slice (some ⟨G, 0, none⟩) 1024 1024, .int .i64 0]) ∧ u.heap.size ≤ G ∧ w'.heap[G]? = some (.cells (img p0.enc) 52 (0, 0)) ∧ Below u.heap.size u w') := fun u hu => pEncode p0 p0_fit p0_ok u hu
  have HDc : Hid (∀ u G, Tab u → u.heap[G]? = some (.cells (img p0.enc) 52 (0, 0)) → Calls Tryd.prog 14 #[.slice (some ⟨G, 0, none⟩) 1024 1024, .int .u32 7] u fun e w' => e = .returned (.tuple #[.agg #[.int .u8 2, .int .u32 7, .int .u64 258, .string ⟨#[97, 98]⟩], .int .i64 0]) ∧ Below u.heap.size u w') := fun u G hu hG => by
    obtain ⟨h1, h2⟩ := EncV.lies p0_ok hG
    have h := pDecAny p0.enc (some ⟨G, 0, none⟩) 1024 7 u h1 hu
    rw [h2, show dec p0.enc 7 = (p0, 0) from dec_enc p0 p0_fit p0_ok] at h
    exact h
  have HX := hide (Xb.start w #[.int .u8 2, .int .u32 7, .int .u64 258, .string ⟨#[97, 98]⟩] 25)
  clear hT
  go_enter Tryd.func17, Tryd.ntmps17
  go_wp2_with fail
  generalize (w.alloc (.cells #[.int .u8 2, .int .u32 7, .int .u64 258, .string ⟨#[97, 98]⟩] 25)) = w0 at *
  refine (unhide HE _ ((unhide HT).below (unhide HX).bel (unhide HT).pos)).mono ?_
  rintro e w1 ⟨G, rfl, hge, hG, hb⟩
  have HX1 := hide ((unhide HX).below hb)
  have HC := hide (unhide HDc w1 G ((unhide HT).below (unhide HX1).bel (unhide HT).pos) hG)
  clear hge hG hb HX
  go_wp2_with fail
  refine (unhide HC).mono ?_
  rintro e w2 ⟨rfl, hb⟩
  have HX2 := hide ((unhide HX1).below hb)
  clear hb HX1 HC HE HDc
  have x0 := (unhide HX2).x 0
  have x1 := (unhide HX2).x 1
  have x2 := (unhide HX2).x 2
  have x3 := (unhide HX2).x 3
  simp only [List.getElem?_toArray, List.getElem?_cons_zero, List.getElem?_cons_succ] at x0 x1 x2 x3
  have hxl := (unhide HX2).xl
  have HBl := hide (unhide HX2).bel
  go_wp2
  go_ret
  exact ⟨rfl, (unhide HBl).alloc (unhide HBl).size _⟩
end Go.Proofs.YtkmcjjlkammlaaaDoor
