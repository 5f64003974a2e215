/- The page: wrong, Encode. -/
import Derived.Test.YtfdfbjijomepgaaDoorPm
namespace Go.Proofs.YtfdfbjijomepgaaDoor
open Go.RowKit Go.Lib

/-- why a page may not be -/
def Pg.wrong (p : Pg) : Int := if 4611686018427387904 < p.ser then 1 else if 996 < p.body.size then 82 else 0
theorem Pg.wrong_ok {p : Pg} (h1 : p.ser ≤ 4611686018427387904) (h2 : p.body.size ≤ 996) : p.wrong = 0 := by
  rw [Pg.wrong, if_neg (by omega), if_neg (by omega)]
theorem Pg.may {p : Pg} (h : p.wrong = 0) : p.ser ≤ 4611686018427387904 ∧ p.body.size ≤ 996 := by
  rw [Pg.wrong] at h
  split at h
  · cases h
  · split at h
    · cases h
    · exact ⟨by omega, by omega⟩
theorem pWrong (p : Pg) (w : World) : Calls Tryd.prog 63 #[.agg p.cs] w fun e w' => e = .returned (.int .i64 p.wrong) ∧ Below w.heap.size w w' := by
  obtain ⟨kind, num, ser, body⟩ := p
  show Calls Tryd.prog 63 #[.agg #[.int .u8 (kind : Int), .int .u32 (num : Int), .int .u64 (ser : Int), .string body]] w _
  have HB := hide ((Below.refl w.heap.size w).alloc (Nat.le_refl _) (.cells #[.int .u8 (kind : Int), .int .u32 (num : Int), .int .u64 (ser : Int), .string body] 70))
  by_cases h1 : 4611686018427387904 < ser
  · have e : Pg.wrong ⟨kind, num, ser, body⟩ = 1 := if_pos h1
    rw [e]
    have h1i : (4611686018427387904 : Int) < (ser : Int) := by omega
    clear e h1
    go_enter Tryd.func63, Tryd.ntmps63
    go_wp2
    go_ret
    exact ⟨rfl, unhide HB⟩
  · by_cases h2 : 996 < body.size
    · have e : Pg.wrong ⟨kind, num, ser, body⟩ = 82 := by rw [Pg.wrong, if_neg h1, if_pos h2]
      rw [e]
      have h1i : ¬ (4611686018427387904 : Int) < (ser : Int) := by omega
      have h2i : (996 : Int) < (body.size : Int) := by omega
      clear e h1 h2
      go_enter Tryd.func63, Tryd.ntmps63
      go_wp2
      go_ret
      exact ⟨rfl, unhide HB⟩
    · have e : Pg.wrong ⟨kind, num, ser, body⟩ = 0 := by rw [Pg.wrong, if_neg h1, if_neg h2]
      rw [e]
      have h1i : ¬ (4611686018427387904 : Int) < (ser : Int) := by omega
      have h2i : ¬ (996 : Int) < (body.size : Int) := by omega
      clear e h1 h2
      go_enter Tryd.func63, Tryd.ntmps63
      go_wp2
      go_ret
      exact ⟨rfl, unhide HB⟩
theorem pEncodeBad (p : Pg) (hp : p.wrong ≠ 0) (w : World) : Calls Tryd.prog 53 #[.agg p.cs] w fun e w' => e = .returned (.tuple #[.slice none 0 0, .int .i64 p.wrong]) ∧ Below w.heap.size w w' := by
  have HW := hide (fun u => pWrong p u)
  obtain ⟨r, hr⟩ : ∃ r, r = p.wrong := ⟨_, rfl⟩
  rw [← hr] at HW hp ⊢
  obtain ⟨kind, num, ser, body⟩ := p
  have HW2 : Hid (∀ u, Calls Tryd.prog 63 #[.agg #[.int .u8 (kind : Int), .int .u32 (num : Int), .int .u64 (ser : Int), .string body]] u fun e w' => e = .returned (.int .i64 r) ∧ Below u.heap.size u w') := unhide HW
  show Calls Tryd.prog 53 #[.agg #[.int .u8 (kind : Int), .int .u32 (num : Int), .int .u64 (ser : Int), .string body]] w _
  have HB := hide ((Below.refl w.heap.size w).alloc (Nat.le_refl _) (.cells #[.int .u8 (kind : Int), .int .u32 (num : Int), .int .u64 (ser : Int), .string body] 70))
  clear HW hr
  have hrn : ¬ r = 0 := hp
  clear hp
  go_enter Tryd.func53, Tryd.ntmps53
  go_wp2_with fail
  refine (unhide HW2 _).mono ?_
  rintro e w1 ⟨rfl, hb⟩
  have HB1 := hide ((unhide HB).trans (hb.mono (unhide HB).size))
  clear hb
  go_wp2
  go_ret2
  exact ⟨rfl, unhide HB1⟩
set_option maxRecDepth 100000 in
theorem pEncode (p : Pg) (hf : p.Fit) (hp : p.wrong = 0) (w : World) (hT : Tab w) : Calls Tryd.prog 53 #[.agg p.cs] w fun e w' => ∃ G, e = .returned (.tuple #[.slice (some ⟨G, 0, none⟩) 1024 1024, .int .i64 0]) ∧ w.heap.size ≤ G ∧ w'.heap[G]? = some (.cells (img p.enc) 126 (0, 0)) ∧ Below w.heap.size w w' := by
  have HW := hide (fun u => pWrong p u)
  rw [hp] at HW
  have HLa := hide (fun u (hu : Tab u) => pLaid p hf (Pg.may hp).2 u hu)
  have HLn : Hid (p.enc.length = 1024) := p.bytes_len (Pg.may hp).2 _
  have HT := hide hT
  generalize p.enc = E at *
  obtain ⟨kind, num, ser, body⟩ := p
  have HW2 : Hid (∀ u, Calls Tryd.prog 63 #[.agg #[.int .u8 (kind : Int), .int .u32 (num : Int), .int .u64 (ser : Int), .string body]] u fun e w' => e = .returned (.int .i64 0) ∧ Below u.heap.size u w') := unhide HW
  have HL2 : Hid (∀ u, Tab u → Calls Tryd.prog 64 #[.agg #[.int .u8 (kind : Int), .int .u32 (num : Int), .int .u64 (ser : Int), .string body]] u fun e w' => e = .returned (.agg (img E)) ∧ Below u.heap.size u w') := unhide HLa
  show Calls Tryd.prog 53 #[.agg #[.int .u8 (kind : Int), .int .u32 (num : Int), .int .u64 (ser : Int), .string body]] w _
  have hn := heap_alloc_new w (.cells #[.int .u8 (kind : Int), .int .u32 (num : Int), .int .u64 (ser : Int), .string body] 70)
  have HB := hide ((Below.refl w.heap.size w).alloc (Nat.le_refl _) (.cells #[.int .u8 (kind : Int), .int .u32 (num : Int), .int .u64 (ser : Int), .string body] 70))
  have HX := hide hn
  clear HW HLa hp hf hT hn
  go_enter Tryd.func53, Tryd.ntmps53
  go_wp2_with fail
  refine (unhide HW2 _).mono ?_
  rintro e w1 ⟨rfl, hb⟩
  have hx := (hb.block w.heap.size (Array.getElem?_eq_some_iff.1 (unhide HX)).1).trans (unhide HX)
  have x0 := cellOf hx 0
  have x1 := cellOf hx 1
  have x2 := cellOf hx 2
  have x3 := cellOf hx 3
  simp only [List.getElem?_toArray, List.getElem?_cons_zero, List.getElem?_cons_succ] at x0 x1 x2 x3
  have HB1 := hide ((unhide HB).trans (hb.mono (unhide HB).size))
  have HC := hide (unhide HL2 w1 ((unhide HT).below (unhide HB1) (unhide HT).pos))
  clear hb hx
  go_wp2_with fail
  refine (unhide HC).mono ?_
  rintro e w2 ⟨rfl, hb⟩
  have HB2 := hide ((unhide HB1).trans (hb.mono (unhide HB1).size))
  obtain ⟨G, hG⟩ : ∃ G, G = w2.heap.size := ⟨_, rfl⟩
  have HG := hide hG
  have HIM : Hid ((Tryd.prog.info? 126).map (·.size) = some (img E).size) := by show _ = _; rw [img_size, unhide HLn]; exact imgInfo
  clear hb x0 x1 x2 x3 hG
  go_wp2_with (first
    | (refine wpList_alloc_row (by rfl) 126 (by rfl) (some 5) (by rfl) G (by exact (unhide HG).symm) (img (zeros 1024)) zeroImg ?_; intro W3 HX3 HB3 HS3; simp only [Act.put, List.setIfInBounds_toArray, List.set_cons_zero, List.set_cons_succ])
    | (refine wpList_store_row (by rfl) 126 (.tmp 5) (.tmp 12) (by rfl) G (img E) (by rfl) (by rfl) 126 (img (zeros 1024)) (unhide HX3) (unhide HIM) (by rw [img_size, img_size, unhide HLn]; rfl) (img_one E) ?_; simp only [Act.put]))
  have hal := slAll G
  have HR := hide (heapRow_same (unhide HX3) (img E))
  have HB4 : Hid (Below w.heap.size w (W3.setRow G (img E))) := by
    have h := (unhide HB2)
    have hg := unhide HG
    exact belowRow (h.trans ((unhide HB3).mono (by rw [hg]; exact h.size))) (by rw [hg]; exact h.size) _
  have HGe : Hid (w.heap.size ≤ G) := by show _ ≤ _; rw [unhide HG]; exact (unhide HB2).size
  clear HX3 HB3 HS3
  generalize W3.setRow G (img E) = W4 at *
  go_wp2
  go_ret2
  exact ⟨G, rfl, unhide HGe, unhide HR, unhide HB4⟩
end Go.Proofs.YtfdfbjijomepgaaDoor
