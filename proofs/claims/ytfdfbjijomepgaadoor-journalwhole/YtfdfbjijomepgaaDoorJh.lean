/- Pages decoded, their two ends: cut out of the page's texts. -/
import Derived.Test.YtfdfbjijomepgaaDoorPj
import Derived.ArgAppend
namespace Go.Proofs.YtfdfbjijomepgaaDoor
open Go.RowKit Go.Lib

/-- bytes that lie somewhere -/
def LiesB (u : World) (ao : Option Addr) (l : List UInt8) : Prop := 0 < l.length → ∃ g o, ao = some ⟨g, o, none⟩ ∧ g < u.heap.size ∧ ∀ (j : Nat) (hj : j < l.length), u.cell? ⟨g, o + j, none⟩ = some (.int .u8 (l[j].toNat : Int))
theorem LiesB.keep {u u' : World} {ao : Option Addr} {l : List UInt8} {B : Nat} (h : LiesB u ao l) (hb : Below B u u') (hB : u.heap.size ≤ B) : LiesB u' ao l := fun h0 => by
  obtain ⟨g, o, h1, h2, h3⟩ := h h0
  exact ⟨g, o, h1, by have := hb.size; omega, fun j hj => (hb.cell (p := ⟨g, o + j, none⟩) (by show g < B; omega)).trans (h3 j hj)⟩
theorem LiesB.range {u : World} {g o : Nat} {l : List UInt8} (h3 : ∀ (j : Nat) (hj : j < l.length), u.cell? ⟨g, o + j, none⟩ = some (.int .u8 (l[j].toNat : Int))) : u.rangeAt g o (img l).toList := fun j v hv => by
  have hj : j < l.length := by
    have := (List.getElem?_eq_some_iff.1 hv).1
    rwa [Array.length_toList, img_size] at this
  rw [h3 j hj]
  rw [Array.getElem?_toList, img_at l j hj] at hv
  exact hv
def Pg.zero : Pg := ⟨0, 0, 0, ⟨#[]⟩⟩
/-- what Decode answers -/
noncomputable def dec (l : List UInt8) (num : Nat) : Pg × Int := by
  classical
  exact if l.length ≠ 1024 then (Pg.zero, 4) else if l = zeros 1024 then (Pg.zero, 51) else if (claim ⟨l.toArray⟩).num = num ∧ (claim ⟨l.toArray⟩).wrong = 0 ∧ (claim ⟨l.toArray⟩).enc = l then (claim ⟨l.toArray⟩, 0) else (Pg.zero, 50)
set_option maxRecDepth 100000 in
theorem pDecodeForm (n : Nat) (hn : n ≠ 1024) (ao : Option Addr) (cap : Nat) (num : Int) (w : World) : Calls Tryd.prog 40 #[.slice ao n cap, .int .u32 num] w fun e w' => e = .returned (.tuple #[.agg #[.int .u8 0, .int .u32 0, .int .u64 0, .string ⟨#[]⟩], .int .i64 4]) ∧ Below w.heap.size w w' := by
  obtain ⟨N, hN⟩ : ∃ N, N = w.heap.size := ⟨_, rfl⟩
  have HN := hide hN
  have hni : ¬ (n : Int) = 1024 := by omega
  clear hn hN
  go_enter Tryd.func40, Tryd.ntmps40
  go_wp2_with (first
    | (refine wpList_alloc_row (by rfl) 70 (by rfl) (some 4) (by rfl) N (by exact (unhide HN).symm) _ zeroPage ?_; intro W1 HX1 HB1 HS1; simp only [Act.put, List.setIfInBounds_toArray, List.set_cons_zero, List.set_cons_succ])
    | (refine wpList_store_hid (by rfl) 70 (.tmp 4) (.tmp 11) (by rfl) N #[.int .u8 0, .int .u32 0, .int .u64 0, .string ⟨#[]⟩] (by rfl) (by rfl) 70 _ (unhide HX1) pageInfo (by rfl) zp_one ?_; intro W4 HX4 HE4; simp only [Act.put]))
  refine bodyPost_ret (results_cell_tmp rfl _ _ N 70 #[.int .u8 0, .int .u32 0, .int .u64 0, .string ⟨#[]⟩] (0, 0) _ rfl (unhide HX4) Tryd.underlying70 rfl pageInfo) rfl ?_
  refine ⟨rfl, ?_⟩
  rw [unhide HE4, ← unhide HN]
  exact belowRow (unhide HB1) (Nat.le_refl _) _
theorem pDecAny (l : List UInt8) (ao : Option Addr) (cap : Nat) (num : Nat) (w : World) (hl : LiesB w ao l) (hT : Tab w) : Calls Tryd.prog 40 #[.slice ao l.length cap, .int .u32 (num : Int)] w fun e w' => e = .returned (.tuple #[.agg (dec l num).1.cs, .int .i64 (dec l num).2]) ∧ Below w.heap.size w w' := by
  classical
  by_cases h0 : l.length = 1024
  · obtain ⟨g, o, rfl, hg, hc⟩ := hl (by omega)
    have hr := LiesB.range hc
    by_cases h1 : l = zeros 1024
    · have e : dec l num = (Pg.zero, 51) := by rw [dec, if_neg (by simpa using h0), if_pos h1]
      rw [e, h0]
      exact pDecodeBlank l h0 g o cap num w hg hr h1
    · by_cases h2 : (claim ⟨l.toArray⟩).num = num
      · by_cases h3 : (claim ⟨l.toArray⟩).wrong = 0
        · by_cases h4 : (claim ⟨l.toArray⟩).enc = l
          · have e : dec l num = (claim ⟨l.toArray⟩, 0) := by rw [dec, if_neg (by simpa using h0), if_neg h1, if_pos ⟨h2, h3, h4⟩]
            rw [e, h0]
            exact pDecodeOk l h0 g o cap num w hg hr h1 h2 h3 h4 hT
          · have e : dec l num = (Pg.zero, 50) := by rw [dec, if_neg (by simpa using h0), if_neg h1, if_neg (fun h => h4 h.2.2)]
            rw [e, h0]
            exact pDecodeNot l h0 g o cap num w hg hr h1 h2 h3 h4 hT
        · have e : dec l num = (Pg.zero, 50) := by rw [dec, if_neg (by simpa using h0), if_neg h1, if_neg (fun h => h3 h.2.1)]
          rw [e, h0]
          exact pDecodeWrong l h0 g o cap num w hg hr h1 h2 h3
      · have e : dec l num = (Pg.zero, 50) := by rw [dec, if_neg (by simpa using h0), if_neg h1, if_neg (fun h => h2 h.1)]
        rw [e, h0]
        exact pDecodeNum l h0 g o cap num w hg hr h1 h2
  · have e : dec l num = (Pg.zero, 4) := by rw [dec, if_pos h0]
    rw [e]
    exact pDecodeForm l.length h0 ao cap (num : Int) w
theorem dec_enc (p : Pg) (hf : p.Fit) (hw : p.wrong = 0) : dec p.enc p.num = (p, 0) := by
  classical
  obtain ⟨_, h2⟩ := Pg.may hw
  have hc := claim_enc p hf h2
  rw [dec, if_neg (by rw [p.bytes_len h2 p.sum |> (show p.enc.length = 1024 from ·)]; simp), if_neg p.not_blank, hc, if_pos ⟨rfl, hw, rfl⟩]
theorem dec_other (p : Pg) (hf : p.Fit) (hw : p.wrong = 0) (n : Nat) (hn : p.num ≠ n) : dec p.enc n = (Pg.zero, 50) := by
  classical
  obtain ⟨_, h2⟩ := Pg.may hw
  have hc := claim_enc p hf h2
  rw [dec, if_neg (by rw [p.bytes_len h2 p.sum |> (show p.enc.length = 1024 from ·)]; simp), if_neg p.not_blank, hc, if_neg (fun h => hn h.1)]
theorem pNumber (l : List UInt8) (hl : l.length = 8) (g o cap : Nat) (w : World) (hc : ∀ (j : Nat) (hj : j < l.length), w.cell? ⟨g, o + j, none⟩ = some (.int .u8 (l[j].toNat : Int))) :
    Calls Tryd.prog 61 #[.slice (some ⟨g, o, none⟩) 8 cap] w fun e w' => e = .returned (.int .u64 (numB l : Int)) ∧ Below w.heap.size w w' := by
  have hcv : (convert 71 9 (.slice (some ⟨g, o, none⟩) 8 cap)).run Tryd.prog w = .ok (.string ⟨l.toArray⟩) w := by
    have := run_convert_bytes_back w 71 9 5 ⟨g, o, none⟩ cap l Tryd.underlying71 Tryd.underlying5 Tryd.underlying9 fun j hj => by rw [Addr.add_mid]; exact hc j hj
    rw [hl] at this
    exact this
  have hTs : (⟨l.toArray⟩ : ByteArray).size = 8 := by rw [← size_toList]; exact hl
  have HR : Hid (Rd (w.alloc (.cells #[.string ⟨l.toArray⟩, .int .i64 0, .int .i64 0] 148)) w.heap.size ⟨l.toArray⟩ 0 0) := Rd.new _ w 148 (by rw [hTs]; decide)
  have HF : Hid (Calls Tryd.prog 70 #[.pointer (some ⟨w.heap.size, 0, none⟩), .int .i64 8] (w.alloc (.cells #[.string ⟨l.toArray⟩, .int .i64 0, .int .i64 0] 148)) fun e w' => e = .returned (.int .u64 (numB l : Int)) ∧ Below w.heap.size w w') := by
    have h := rFixed w.heap.size ⟨l.toArray⟩ 0 0 8 _ (unhide HR)
    rw [show fixS ⟨l.toArray⟩ 0 0 8 = _ from fixS_at _ 0 8 (by decide) (by decide) (by omega)] at h
    refine h.mono ?_
    rintro e w' ⟨rfl, hr⟩
    have e1 : ((⟨l.toArray⟩ : ByteArray).extract 0 (0 + 8)).data.toList = l := by
      rw [ext_list, List.drop_zero, List.take_of_length_le (by omega)]
    refine ⟨by rw [e1], ?_⟩
    have hb := (Below.refl w.heap.size w).alloc (Nat.le_refl _) (.cells #[.string ⟨l.toArray⟩, .int .i64 0, .int .i64 0] 148)
    exact hb.trans (hr.2.below hb.size (Nat.le_refl _) (Nat.le_refl _))
  generalize (⟨l.toArray⟩ : ByteArray) = T at *
  clear hc hTs HR hl
  go_enter Tryd.func61, Tryd.ntmps61
  go_wp2_with fail
  refine (rNew T _).mono ?_
  rintro e w1 ⟨rfl, hw⟩
  obtain rfl := hw.symm
  clear hw
  go_wp2_with fail
  refine (unhide HF).mono ?_
  rintro e w2 ⟨rfl, hb⟩
  have HB := hide hb
  clear hb
  go_wp2
  go_ret
  exact ⟨rfl, unhide HB⟩
/-- head and tail of a page's bytes -/
def hd8 (l : List UInt8) : Nat := numB (l.take 8)
def tl8 (l : List UInt8) : Nat := numB (l.drop 1016)
set_option maxRecDepth 100000 in
theorem pEnds (l : List UInt8) (hl : l.length = 1024) (g o cap : Nat) (hcap : 1024 ≤ cap) (hc63 : cap ≤ 9223372036854775807) (w : World) (hg : g < w.heap.size) (hc : ∀ (j : Nat) (hj : j < l.length), w.cell? ⟨g, o + j, none⟩ = some (.int .u8 (l[j].toNat : Int))) :
    Calls Tryd.prog 39 #[.slice (some ⟨g, o, none⟩) 1024 cap] w fun e w' => e = .returned (.tuple #[.int .u64 (hd8 l : Int), .int .u64 (tl8 l : Int), .bool true]) ∧ Below w.heap.size w w' := by
  have HN1 : Hid (∀ u, Below w.heap.size w u → Calls Tryd.prog 61 #[.slice (some ⟨g, o, none⟩) 8 cap] u fun e w' => e = .returned (.int .u64 (hd8 l : Int)) ∧ Below u.heap.size u w') := fun u hu =>
    pNumber (l.take 8) (by rw [List.length_take]; omega) g o cap u fun j hj => by
      have hj2 : j < l.length := by rw [List.length_take] at hj; omega
      rw [hu.cell (p := ⟨g, o + j, none⟩) hg, hc j hj2, List.getElem_take]
  have HN2 : Hid (∀ u, Below w.heap.size w u → Calls Tryd.prog 61 #[.slice (some ⟨g, o + 1016, none⟩) 8 (cap - 1016)] u fun e w' => e = .returned (.int .u64 (tl8 l : Int)) ∧ Below u.heap.size u w') := fun u hu =>
    pNumber (l.drop 1016) (by rw [List.length_drop]; omega) g (o + 1016) (cap - 1016) u fun j hj => by
      have hj2 : 1016 + j < l.length := by rw [List.length_drop] at hj; omega
      rw [Nat.add_assoc, hu.cell (p := ⟨g, o + (1016 + j), none⟩) hg, hc (1016 + j) hj2, List.getElem_drop]
  generalize hd8 l = h8 at *
  generalize tl8 l = t8 at *
  have h1i : (8 : Int) ≤ (cap : Int) := by omega
  have h2i : (1024 : Int) ≤ (cap : Int) := by omega
  have HC := hide (And.intro hcap hc63)
  clear hc hl hg hcap hc63
  go_enter Tryd.func39, Tryd.ntmps39
  go_wp2
  go_region_held3 (fun _ => True) (exact trivial) (first
    | (go_at_call_of 61 (Value.slice (some ⟨g, o, none⟩) 8 cap); refine (unhide HN1 _ ?_).mono ?_; exact (show Below w.heap.size w w.drew from ⟨rfl, rfl, rfl, Nat.le_refl _, fun _ _ => rfl⟩); rintro e w5 ⟨rfl, hb5⟩; have HB5 := hide (show Below w.heap.size w w5 from ⟨hb5.os, hb5.tape, hb5.output, hb5.size, hb5.block⟩); clear hb5)
    | (go_at_call 61; refine (unhide HN2 _ (unhide HB5)).mono ?_; rintro e w6 ⟨rfl, hb6⟩; have HB6 := hide ((unhide HB5).trans (hb6.mono (unhide HB5).size)); clear hb6))
  go_wp2
  refine bodyPost_ret (v := .tuple #[.int .u64 (h8 : Int), .int .u64 (t8 : Int), .bool true]) (by simp [results, Tryd.f39]) rfl ?_
  exact ⟨rfl, unhide HB6⟩
theorem numB_inj : ∀ (n : Nat) (a b : List UInt8), a.length = n → b.length = n → numB a = numB b → a = b
  | 0, a, b, ha, hb, _ => by rw [List.length_eq_zero_iff.1 ha, List.length_eq_zero_iff.1 hb]
  | n + 1, a, b, ha, hb, h => by
    rcases List.eq_nil_or_concat a with rfl | ⟨a', x, rfl⟩
    · simp at ha
    · rcases List.eq_nil_or_concat b with rfl | ⟨b', y, rfl⟩
      · simp at hb
      · simp only [List.concat_eq_append] at ha hb h ⊢
        rw [numB_snoc, numB_snoc] at h
        have hx := x.toNat_lt
        have hy := y.toNat_lt
        have h1 : numB a' = numB b' := by omega
        have h2 : x = y := UInt8.toNat.inj (by omega)
        rw [numB_inj n a' b' (by simpa using ha) (by simpa using hb) h1, h2]
section
variable (p q : Pg)
theorem Pg.front8 (hs : p.body.size ≤ 996) : p.enc.take 8 = fixB p.ser 8 ∧ p.enc.drop 1016 = fixB p.ser 8 := by
  have l8 := fixB_length p.ser 8
  refine ⟨?_, ?_⟩
  · rw [p.enc_eq, List.take_append_of_le_length (by omega), List.take_of_length_le (by omega)]
  · have hl : (p.fr ++ fixB p.sum 4 ++ p.body.data.toList ++ zeros (996 - p.body.size)).length = 1016 := by
      simp only [List.length_append, Pg.fr_len, fixB_length, zeros, List.length_replicate, size_toList]
      omega
    rw [Pg.enc, Pg.bytes, List.drop_append, hl, List.drop_of_length_le (by omega)]
    simp
end
end Go.Proofs.YtfdfbjijomepgaaDoor
