/- The journal: Puts on a disk whose power holds. Of no program but for names. -/
import Derived.Test.YtfdfbjijomepgaaDoorJq
namespace Go.Proofs.YtfdfbjijomepgaaDoor
open Go.RowKit

/-- a disk whose power holds, nothing pending -/
structure Lit (d : D.Dk) : Prop where
  ok : d.Ok
  off : d.off = false
  pend : d.pend = []
  fuse : d.fuse = -1
/-- the disk behind a Put that went through -/
def okPut (d : D.Dk) (f s : Nat) (l : List Pg) : D.Dk := ⟨(⟨d.lies, pendK f s l (l.length + 1), false, -1⟩ : D.Dk).landed (fun _ => 1024) (l.length + 1), [], false, -1⟩
theorem okPut_len (d : D.Dk) (f s : Nat) (l : List Pg) : (okPut d f s l).lies.length = d.lies.length := D.Dk.landed_length _ _ _
theorem refJ_zero {f c P : Nat} (h1 : 1 ≤ c) (h2 : f + c ≤ P) : refJ (f : Int) (c : Int) P = 0 := by rw [refJ, if_neg (by omega)]
theorem room_nat {c : Nat} : room (c : Int) = ((roomN c : Nat) : Int) := by
  rw [roomN, room]
  split
  · omega
  · split <;> omega
theorem wrongB_zero {s : Nat} {l : List Pg} {r : Int} (h : wrongOk s l r) : wrongB s l r = 0 := by
  obtain ⟨h1, h2, h3, h4, h5⟩ := h
  rw [wrongB, if_neg (by omega), if_neg (by omega), if_neg (fun hx => hx h4), if_neg (fun ⟨p, hp, hx⟩ => by have := h5 p hp; omega)]
section
variable {d : D.Dk} {f c s : Nat} {l : List Pg}
/-- Put goes through -/
theorem put_full (h : Lit d) (hc : 1 ≤ c) (hP : f + c ≤ d.lies.length) (hw : wrongOk s l (roomN c : Nat)) : putJ d (f : Int) (c : Int) s l = (0, okPut d f s l) := by
  have hmax := h.ok.max
  have hn : l.length ≤ 198 ∧ l.length + 1 ≤ c := by
    have h1 := hw.2.2.1
    have h3 : roomN c ≤ 198 ∧ roomN c + 1 ≤ c := by unfold roomN; omega
    omega
  rw [putJ, refJ_zero hc hP, if_neg (by simp), room_nat, wrongB_zero hw, if_neg (by simp), Int.toNat_natCast]
  have hsb : ∀ q (hq : q < l.length), (slotP f s q (l.getD q ⟨0, 0, 0, ⟨#[]⟩⟩)).body.size ≤ 996 := fun q hq => by
    rw [List.getD_eq_getElem?_getD, List.getElem?_eq_getElem hq]
    exact hw.2.2.2.2 l[q] (List.getElem_mem hq)
  have hr := put_ran (c := c) (f := f) (s := s) (l := l) h.off h.pend rfl (fun q hq => ⟨by omega, enc_len _ (hsb q hq)⟩) ⟨by omega, enc_len _ (by show (⟨(listB l).toArray⟩ : ByteArray).size ≤ 996; rw [ba_size]; exact listB_len l hn.1)⟩ rfl
  rcases hr with ⟨e, _⟩ | ⟨j, _, _, hx⟩
  · rw [e, h.fuse]
    unfold okPut D.Dk.settle
    rw [pendK_len]
    simp only [burnt]
    rfl
  · rw [h.fuse] at hx
    omega
theorem okPut_lit (h : Lit d) (hP : f + l.length < d.lies.length) (hw : ∀ p ∈ l, p.body.size ≤ 996) (hn : l.length ≤ 198) : Lit (okPut d f s l) := by
  have hsb : ∀ q (hq : q < l.length), (slotP f s q l[q]).body.size ≤ 996 := fun q hq => hw l[q] (List.getElem_mem hq)
  have hO : (⟨d.lies, pendK f s l (l.length + 1), false, -1⟩ : D.Dk).Ok := ⟨h.ok.pos, h.ok.max, h.ok.len, fun q hq => by
    obtain ⟨i, hi, rfl⟩ := List.mem_map.1 hq
    by_cases hil : i < l.length
    · rw [wrq_lt hil]
      exact ⟨by show f + 1 + i < d.lies.length; omega, enc_len _ (hsb i hil)⟩
    · rw [wrq_ge (by omega)]
      exact ⟨by show f < d.lies.length; omega, enc_len _ (by show (⟨(listB l).toArray⟩ : ByteArray).size ≤ 996; rw [ba_size]; exact listB_len l hn)⟩, by show (-1 : Int) ≤ -1; omega, by show (-1 : Int) ≤ _; omega⟩
  have hk := hO.settle (fun _ => 1024)
  refine ⟨⟨?_, ?_, ?_, fun q (hq : q ∈ ([] : List (Nat × List UInt8))) => (by cases hq), by show (-1 : Int) ≤ -1; omega, by show (-1 : Int) ≤ _; omega⟩, rfl, rfl, rfl⟩
  · rw [okPut_len]; exact h.ok.pos
  · rw [okPut_len]; exact h.ok.max
  · have := hk.len
    unfold D.Dk.settle at this
    rw [pendK_len] at this
    exact this
theorem okPut_page (d : D.Dk) : (okPut d f s l).page = pgOf (okPut d f s l).lies := page_nil rfl
theorem okPut_stp (hP : f + c ≤ d.lies.length) (hn : l.length + 1 ≤ c) : Stp (pgOf d.lies) (pgOf (okPut d f s l).lies) f c s l (fun _ => 1024) := land_full hP hn
theorem okPut_other (d : D.Dk) (f s : Nat) (l : List Pg) (x : Nat) (h : x < f ∨ f + l.length < x) : pgOf (okPut d f s l).lies x = pgOf d.lies x := land_other x (Nat.le_refl _) h
/-- what is ahead of a Put -/
theorem pre_of (h : Lit d) (hc : 1 ≤ c) (hP : f + c ≤ d.lies.length) (ht : topK (pgOf d.lies) f c < s) (hw : wrongOk s l (roomN c : Nat)) (hf : ∀ p ∈ l, p.Fit) : Pre (pgOf d.lies) f c s l :=
  ⟨fun i hi => h.ok.len _ (D.getD_mem _ _ (by omega) _), ht, hw, hf, hc, by have := h.ok.max; omega⟩
end
theorem hdrOf_same {pg pg' : Nat → List UInt8} {f : Nat} (h : pg' f = pg f) : hdrOf pg' f = hdrOf pg f := by rw [hdrOf, hdrOf, h]
theorem slotsOf_same {pg pg' : Nat → List UInt8} {f c : Nat} (h : ∀ i, i + 1 < c → pg' (f + 1 + i) = pg (f + 1 + i)) : slotsOf pg' f c = slotsOf pg f c := by
  unfold slotsOf
  refine List.map_congr_left fun i hi => ?_
  rw [h i (by rw [List.mem_range] at hi; unfold roomN at hi; omega)]
theorem topK_sub {pg : Nat → List UInt8} {f g c e : Nat} (h1 : f ≤ g) (h2 : g + e ≤ f + c) : topK pg g e ≤ topK pg f c := topK_le e fun i hi => by
  have := topK_ge pg f c (g - f + i) (by omega)
  rw [show f + (g - f + i) = g + i from by omega] at this
  exact this
theorem numB_zeros : ∀ n, numB (List.replicate n 0) = 0
  | 0 => rfl
  | n + 1 => by
    rw [List.replicate_succ', numB_snoc, numB_zeros n]
    rfl
theorem topK_blank (n f c : Nat) (h : f + c ≤ n) : topK (pgOf (List.replicate n (D.zeros 1024))) f c = 0 := by
  have h1 : topK (pgOf (List.replicate n (D.zeros 1024))) f c ≤ 0 := topK_le c fun i hi => by
    have e : pgOf (List.replicate n (D.zeros 1024)) (f + i) = List.replicate 1024 0 := by
      rw [pgOf, List.getD_eq_getElem?_getD, List.getElem?_replicate, if_pos (by omega)]
      rfl
    rw [e, hd8, tl8, List.take_replicate, List.drop_replicate, numB_zeros, numB_zeros]
    exact ⟨Nat.le_refl _, Nat.le_refl _⟩
  omega
theorem blank_lit (n : Nat) (h0 : 0 < n) (h1 : n ≤ 4096) : Lit (D.Dk.blank n) := by
  refine ⟨⟨by simpa [D.Dk.blank] using h0, by simpa [D.Dk.blank] using h1, fun l hl => ?_, fun q (hq : q ∈ ([] : List (Nat × List UInt8))) => (by cases hq), by show (-1 : Int) ≤ -1; omega, by show (-1 : Int) ≤ _; omega⟩, rfl, rfl, rfl⟩
  have : l = D.zeros 1024 := List.eq_of_mem_replicate hl
  rw [this]
  exact List.length_replicate
end Go.Proofs.YtfdfbjijomepgaaDoor
