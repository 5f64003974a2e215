/- The page: Decode of all bytes; two pages compared. -/
import Derived.Test.YtkmcjjlkammlaaaDoorPj
import Derived.Test.YtkmcjjlkammlaaaDoorPn
namespace Go.Proofs.YtkmcjjlkammlaaaDoor
open Go.RowKit Go.Lib

/-- bytes that lie somewhere -/
def LiesB (u : World) (ao : Option Addr) (l : List UInt8) : Prop := 0 < l.length → ∃ g o, ao = some ⟨g, o, none⟩ ∧ g < u.heap.size ∧ ∀ (j : Nat) (hj : j < l.length), u.cell? ⟨g, o + j, none⟩ = some (.int .u8 (l[j].toNat : Int))
theorem LiesB.keep {u u' : World} {ao : Option Addr} {l : List UInt8} {B : Nat} (h : LiesB u ao l) (hb : Below B u u') (hB : u.heap.size ≤ B) : LiesB u' ao l := fun h0 => by
  obtain ⟨g, o, h1, h2, h3⟩ := h h0
  exact ⟨g, o, h1, by have := hb.size; omega, fun j hj => (hb.cell (p := ⟨g, o + j, none⟩) (by show g < B; omega)).trans (h3 j hj)⟩
theorem LiesB.range {u : World} {g o : Nat} {l : List UInt8} (h3 : ∀ (j : Nat) (hj : j < l.length), u.cell? ⟨g, o + j, none⟩ = some (.int .u8 (l[j].toNat : Int))) : u.rangeAt g o (img l).toList := fun j v hv => by
  have hj : j < l.length := by
    have := (List.getElem?_eq_some_iff.1 hv).1
    rwa [Array.length_toList, img_size] at this
  rw [h3 j hj]
  rw [Array.getElem?_toList, img_at l j hj] at hv
  exact hv
def Pg.zero : Pg := ⟨0, 0, 0, ⟨#[]⟩⟩
/-- what Decode answers -/
noncomputable def dec (l : List UInt8) (num : Nat) : Pg × Int := by
  classical
  exact if l.length ≠ 1024 then (Pg.zero, 4) else if l = zeros 1024 then (Pg.zero, 51) else if (claim ⟨l.toArray⟩).num = num ∧ (claim ⟨l.toArray⟩).wrong = 0 ∧ (claim ⟨l.toArray⟩).enc = l then (claim ⟨l.toArray⟩, 0) else (Pg.zero, 50)
set_option maxRecDepth 100000 in
theorem pDecodeForm (n : Nat) (hn : n ≠ 1024) (ao : Option Addr) (cap : Nat) (num : Int) (w : World) : Calls Tryd.prog 14 #[.slice ao n cap, .int .u32 num] w fun e w' => e = .returned (.tuple #[.agg #[.int .u8 0, .int .u32 0, .int .u64 0, .string ⟨#[]⟩], .int .i64 4]) ∧ Below w.heap.size w w' := by
  obtain ⟨N, hN⟩ : ∃ N, N = w.heap.size := ⟨_, rfl⟩
  have HN := hide hN
  have hni : ¬ (n : Int) = 1024 := by omega
  clear hn hN
  go_enter Tryd.func14, Tryd.ntmps14
  go_wp2_with (first
    | (refine wpList_alloc_row (by rfl) 25 (by rfl) (some 4) (by rfl) N (by exact (unhide HN).symm) _ zeroPage ?_; intro W1 HX1 HB1 HS1; simp only [Act.put, List.setIfInBounds_toArray, List.set_cons_zero, List.set_cons_succ])
    | (refine wpList_store_hid (by rfl) 25 (.tmp 4) (.tmp 11) (by rfl) N #[.int .u8 0, .int .u32 0, .int .u64 0, .string ⟨#[]⟩] (by rfl) (by rfl) 25 _ (unhide HX1) pageInfo (by rfl) zp_one ?_; intro W4 HX4 HE4; simp only [Act.put]))
  refine bodyPost_ret (results_cell_tmp rfl _ _ N 25 #[.int .u8 0, .int .u32 0, .int .u64 0, .string ⟨#[]⟩] (0, 0) _ rfl (unhide HX4) Tryd.underlying25 rfl pageInfo) rfl ?_
  refine ⟨rfl, ?_⟩
  rw [unhide HE4, ← unhide HN]
  exact belowRow (unhide HB1) (Nat.le_refl _) _
theorem pDecAny (l : List UInt8) (ao : Option Addr) (cap : Nat) (num : Nat) (w : World) (hl : LiesB w ao l) (hT : Tab w) : Calls Tryd.prog 14 #[.slice ao l.length cap, .int .u32 (num : Int)] w fun e w' => e = .returned (.tuple #[.agg (dec l num).1.cs, .int .i64 (dec l num).2]) ∧ Below w.heap.size w w' := by
  classical
  by_cases h0 : l.length = 1024
  · obtain ⟨g, o, rfl, hg, hc⟩ := hl (by omega)
    have hr := LiesB.range hc
    by_cases h1 : l = zeros 1024
    · have e : dec l num = (Pg.zero, 51) := by rw [dec, if_neg (by simpa using h0), if_pos h1]
      rw [e, h0]
      exact pDecodeBlank l h0 g o cap num w hg hr h1
    · by_cases h2 : (claim ⟨l.toArray⟩).num = num
      · by_cases h3 : (claim ⟨l.toArray⟩).wrong = 0
        · by_cases h4 : (claim ⟨l.toArray⟩).enc = l
          · have e : dec l num = (claim ⟨l.toArray⟩, 0) := by rw [dec, if_neg (by simpa using h0), if_neg h1, if_pos ⟨h2, h3, h4⟩]
            rw [e, h0]
            exact pDecodeOk l h0 g o cap num w hg hr h1 h2 h3 h4 hT
          · have e : dec l num = (Pg.zero, 50) := by rw [dec, if_neg (by simpa using h0), if_neg h1, if_neg (fun h => h4 h.2.2)]
            rw [e, h0]
            exact pDecodeNot l h0 g o cap num w hg hr h1 h2 h3 h4 hT
        · have e : dec l num = (Pg.zero, 50) := by rw [dec, if_neg (by simpa using h0), if_neg h1, if_neg (fun h => h3 h.2.1)]
          rw [e, h0]
          exact pDecodeWrong l h0 g o cap num w hg hr h1 h2 h3
      · have e : dec l num = (Pg.zero, 50) := by rw [dec, if_neg (by simpa using h0), if_neg h1, if_neg (fun h => h2 h.1)]
        rw [e, h0]
        exact pDecodeNum l h0 g o cap num w hg hr h1 h2
  · have e : dec l num = (Pg.zero, 4) := by rw [dec, if_pos h0]
    rw [e]
    exact pDecodeForm l.length h0 ao cap (num : Int) w
theorem dec_enc (p : Pg) (hf : p.Fit) (hw : p.wrong = 0) : dec p.enc p.num = (p, 0) := by
  classical
  obtain ⟨_, h2⟩ := Pg.may hw
  have hc := claim_enc p hf h2
  rw [dec, if_neg (by rw [p.bytes_len h2 p.sum |> (show p.enc.length = 1024 from ·)]; simp), if_neg p.not_blank, hc, if_pos ⟨rfl, hw, rfl⟩]
theorem dec_other (p : Pg) (hf : p.Fit) (hw : p.wrong = 0) (n : Nat) (hn : p.num ≠ n) : dec p.enc n = (Pg.zero, 50) := by
  classical
  obtain ⟨_, h2⟩ := Pg.may hw
  have hc := claim_enc p hf h2
  rw [dec, if_neg (by rw [p.bytes_len h2 p.sum |> (show p.enc.length = 1024 from ·)]; simp), if_neg p.not_blank, hc, if_neg (fun h => hn h.1)]
end Go.Proofs.YtkmcjjlkammlaaaDoor
