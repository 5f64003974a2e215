/- JournalNone: what its Puts answer, and what its Scans find. Of no program but for names. -/
import Derived.Test.YtfdfbjijomepgaaDoorJt
namespace Go.Proofs.YtfdfbjijomepgaaDoor
open Go.RowKit

theorem len_of (d : D.Dk) (f s : Nat) (l : List Pg) (n : Nat) (h : d.lies.length = n) : (okPut d f s l).lies.length = n := (okPut_len d f s l).trans h
open Classical in
theorem put_ref (d : D.Dk) (f c : Int) (s : Nat) (l : List Pg) (P : Nat) (hP : d.lies.length = P) (h : refJ f c P = 1) : putJ d f c s l = (1, d) := by
  rw [putJ, hP, h, if_pos (by decide)]
open Classical in
theorem put_wrong (d : D.Dk) (f c : Nat) (s : Nat) (l : List Pg) (x : Int) (h1 : 1 ≤ c) (h2 : f + c ≤ d.lies.length) (hx : x ≠ 0) (h : wrongB s l (roomN c : Nat) = x) : putJ d (f : Int) (c : Int) s l = (x, d) := by
  rw [putJ, refJ_zero h1 h2, if_neg (by simp), room_nat, h, if_pos hx]
theorem wrong_many {s : Nat} {l : List Pg} {r : Nat} (h0 : s ≠ 0) (h1 : s ≤ 4611686018427387904) (h : r < l.length) : wrongB s l (r : Nat) = 60 := by
  rw [wrongB, if_neg (by omega), if_pos (by omega)]
theorem wrong_ser {s : Nat} {l : List Pg} {r : Int} (h : s = 0 ∨ 4611686018427387904 < s) : wrongB s l r = 1 := by rw [wrongB, if_pos h]
theorem wrong_rise {s : Nat} {l : List Pg} {r : Nat} (h0 : s ≠ 0) (h1 : s ≤ 4611686018427387904) (h : l.length ≤ r) (hr : ¬ rises l) : wrongB s l (r : Nat) = 1 := by
  rw [wrongB, if_neg (by omega), if_neg (by omega), if_pos hr]
theorem wrong_big {s : Nat} {l : List Pg} {r : Nat} (h0 : s ≠ 0) (h1 : s ≤ 4611686018427387904) (h : l.length ≤ r) (hr : rises l) (hb : ∃ p ∈ l, 996 < p.body.size) : wrongB s l (r : Nat) = 82 := by
  rw [wrongB, if_neg (by omega), if_neg (by omega), if_neg (fun hx => hx hr), if_pos hb]
theorem rises_one (p : Pg) : rises [p] := fun i hi _ => by simp at hi
theorem one_ok (s : Nat) (p : Pg) (r : Nat) (h0 : s ≠ 0) (h1 : s ≤ 4611686018427387904) (h2 : 1 ≤ r) (hb : p.body.size ≤ 996) : wrongOk s [p] (r : Nat) := ⟨h0, h1, by show (1 : Int) ≤ _; omega, rises_one p, fun q hq => by rw [List.mem_singleton.1 hq]; exact hb⟩
def nd0 : D.Dk := D.Dk.blank 300
def nd1 : D.Dk := okPut nd0 0 5 (noneL 198)
def nd2 : D.Dk := okPut nd1 296 4611686018427387904 (noneL 3)
def nd3 (b : ByteArray) : D.Dk := okPut nd2 0 6 [⟨0, 0, 0, b⟩]
def one1 : Pg := ⟨1, 3, 0, ⟨#[111, 110, 101]⟩⟩
def two1 : Pg := ⟨2, 4, 0, ⟨#[116, 119, 111]⟩⟩
def nd4 (b : ByteArray) : D.Dk := okPut (nd3 b) 100 9 [one1]
def nd5 (b : ByteArray) : D.Dk := okPut (nd4 b) 100 10 [two1]
theorem nl0 : nd0.lies.length = 300 := List.length_replicate
theorem nl1 : nd1.lies.length = 300 := len_of _ _ _ _ _ nl0
theorem nl2 : nd2.lies.length = 300 := len_of _ _ _ _ _ nl1
theorem nl3 (b : ByteArray) : (nd3 b).lies.length = 300 := len_of _ _ _ _ _ nl2
theorem nl4 (b : ByteArray) : (nd4 b).lies.length = 300 := len_of _ _ _ _ _ (nl3 b)
theorem nl5 (b : ByteArray) : (nd5 b).lies.length = 300 := len_of _ _ _ _ _ (nl4 b)
theorem lt0 : Lit nd0 := blank_lit 300 (by decide) (by decide)
theorem lt1 : Lit nd1 := okPut_lit lt0 (by rw [noneL_len, nl0]; decide) (noneL_body _) (by rw [noneL_len]; decide)
theorem lt2 : Lit nd2 := okPut_lit lt1 (by rw [noneL_len, nl1]; decide) (noneL_body _) (by rw [noneL_len]; decide)
theorem single_body {p : Pg} (h : p.body.size ≤ 996) : ∀ q ∈ [p], q.body.size ≤ 996 := fun q hq => by rw [List.mem_singleton.1 hq]; exact h
theorem lt3 (b : ByteArray) (hb : b.size ≤ 996) : Lit (nd3 b) := okPut_lit lt2 (by rw [nl2]; show 0 + 1 < 300; decide) (single_body hb) (by show 1 ≤ 198; decide)
theorem lt4 (b : ByteArray) (hb : b.size ≤ 996) : Lit (nd4 b) := okPut_lit (lt3 b hb) (by rw [nl3]; decide) (single_body (by decide)) (by decide)
theorem lt5 (b : ByteArray) (hb : b.size ≤ 996) : Lit (nd5 b) := okPut_lit (lt4 b hb) (by rw [nl4]; decide) (single_body (by decide)) (by decide)
theorem fit1 (p : Pg) (h1 : p.kind < 256) (h2 : p.num < 4294967296) (h3 : p.ser < 18446744073709551616) : ∀ q ∈ [p], q.Fit := fun q hq => by rw [List.mem_singleton.1 hq]; exact ⟨h1, h2, h3⟩
theorem top1 : topK (pgOf nd1.lies) 0 300 = 5 := by
  have hp : Pre (pgOf nd0.lies) 0 300 5 (noneL 198) := pre_of lt0 (by decide) (by rw [nl0]; decide) (by rw [show nd0.lies = List.replicate 300 (D.zeros 1024) from rfl, topK_blank 300 0 300 (by decide)]; decide) (noneL_ok 5 198 _ (by decide) (by decide) (by decide)) (noneL_fit _ (by decide))
  exact (Stp.full hp (okPut_stp (by rw [nl0]; decide) (by rw [noneL_len]; decide))).2.2.2
theorem top1a (f c : Nat) (h : f + c ≤ 300) : topK (pgOf nd1.lies) f c ≤ 5 := by
  have := topK_sub (pg := pgOf nd1.lies) (f := 0) (g := f) (c := 300) (e := c) (by omega) (by omega)
  rw [top1] at this
  exact this
theorem pre2 : Pre (pgOf nd1.lies) 296 4 4611686018427387904 (noneL 3) := pre_of lt1 (by decide) (by rw [nl1]; decide) (by have := top1a 296 4 (by decide); omega) (noneL_ok _ 3 _ (by decide) (by decide) (by decide)) (noneL_fit _ (by decide))
theorem foundX (b : ByteArray) : batchOk (hdrOf (pgOf (nd3 b).lies) 296) (slotsOf (pgOf (nd3 b).lies) 296 4) ∧ batchL (hdrOf (pgOf (nd3 b).lies) 296) (slotsOf (pgOf (nd3 b).lies) 296 4) = withSer 4611686018427387904 (noneL 3) ∧ (hdrOf (pgOf (nd3 b).lies) 296).ser = 4611686018427387904 ∧ topK (pgOf (nd3 b).lies) 296 4 = 4611686018427387904 := by
  have h := Stp.full pre2 (okPut_stp (by rw [nl1]; decide) (by rw [noneL_len]; decide))
  have e : ∀ x, 1 < x → pgOf (nd3 b).lies x = pgOf nd2.lies x := fun x hx => okPut_other nd2 0 6 [⟨0, 0, 0, b⟩] x (.inr (by show 0 + 1 < x; omega))
  rw [hdrOf_same (e 296 (by decide)), slotsOf_same (fun i _ => e (296 + 1 + i) (by omega)), topK_same 4 (fun i _ => e (296 + i) (by omega))]
  exact h
theorem pre3 (b : ByteArray) (hb : b.size ≤ 996) : Pre (pgOf nd2.lies) 0 296 6 [⟨0, 0, 0, b⟩] := pre_of lt2 (by decide) (by rw [nl2]; decide) (by
    have e : topK (pgOf nd2.lies) 0 296 = topK (pgOf nd1.lies) 0 296 := topK_same 296 fun i hi => okPut_other nd1 296 _ (noneL 3) (0 + i) (.inl (by omega))
    have := top1a 0 296 (by decide)
    omega) (one_ok 6 _ _ (by decide) (by decide) (by decide) hb) (fit1 _ (by show 0 < 256; decide) (by show 0 < 4294967296; decide) (by show 0 < 18446744073709551616; decide))
theorem foundY (b : ByteArray) (hb : b.size ≤ 996) : batchOk (hdrOf (pgOf (nd3 b).lies) 0) (slotsOf (pgOf (nd3 b).lies) 0 296) ∧ batchL (hdrOf (pgOf (nd3 b).lies) 0) (slotsOf (pgOf (nd3 b).lies) 0 296) = withSer 6 [⟨0, 0, 0, b⟩] ∧ (hdrOf (pgOf (nd3 b).lies) 0).ser = 6 ∧ topK (pgOf (nd3 b).lies) 0 296 = 6 :=
  Stp.full (pre3 b hb) (okPut_stp (by rw [nl2]; decide) (by show 2 ≤ 296; decide))
theorem pre4 (b : ByteArray) (hb : b.size ≤ 996) : Pre (pgOf (nd3 b).lies) 100 4 9 [one1] := pre_of (lt3 b hb) (by decide) (by rw [nl3]; decide) (by
    have e : topK (pgOf (nd3 b).lies) 100 4 = topK (pgOf nd1.lies) 100 4 := topK_same 4 fun i hi => (okPut_other nd2 0 6 [⟨0, 0, 0, b⟩] (100 + i) (.inr (by show 0 + 1 < 100 + i; omega))).trans (okPut_other nd1 296 _ (noneL 3) (100 + i) (.inl (by omega)))
    have := top1a 100 4 (by decide)
    omega) (one_ok 9 _ _ (by decide) (by decide) (by decide) (by decide)) (fit1 _ (by decide) (by decide) (by decide))
theorem pre5 (b : ByteArray) (hb : b.size ≤ 996) : Pre (pgOf (nd4 b).lies) 100 4 10 [two1] := pre_of (lt4 b hb) (by decide) (by rw [nl4]; decide) (by
    have := (Stp.full (pre4 b hb) (okPut_stp (by rw [nl3]; decide) (by show 2 ≤ 4; decide))).2.2.2
    have e : topK (pgOf (nd4 b).lies) 100 4 = 9 := this
    omega) (one_ok 10 _ _ (by decide) (by decide) (by decide) (by decide)) (fit1 _ (by decide) (by decide) (by decide))
theorem foundZ (b : ByteArray) (hb : b.size ≤ 996) : batchOk (hdrOf (pgOf (nd5 b).lies) 100) (slotsOf (pgOf (nd5 b).lies) 100 4) ∧ batchL (hdrOf (pgOf (nd5 b).lies) 100) (slotsOf (pgOf (nd5 b).lies) 100 4) = withSer 10 [two1] ∧ (hdrOf (pgOf (nd5 b).lies) 100).ser = 10 ∧ topK (pgOf (nd5 b).lies) 100 4 = 10 :=
  Stp.full (pre5 b hb) (okPut_stp (by rw [nl4]; decide) (by show 2 ≤ 4; decide))
theorem pA : putJ nd0 0 300 5 (noneL 199) = (60, nd0) := put_wrong nd0 0 300 5 (noneL 199) 60 (by decide) (by rw [nl0]; decide) (by decide) (wrong_many (by decide) (by decide) (by rw [noneL_len]; decide))
theorem pB : putJ nd0 0 300 5 (noneL 198) = (0, nd1) := put_full (f := 0) (c := 300) lt0 (by decide) (by rw [nl0]; decide) (noneL_ok 5 198 _ (by decide) (by decide) (by decide))
theorem pC : putJ nd1 296 5 6 [] = (1, nd1) := put_ref nd1 296 5 6 [] 300 nl1 (by decide)
theorem pD : putJ nd1 296 4 6 (noneL 4) = (60, nd1) := put_wrong nd1 296 4 6 (noneL 4) 60 (by decide) (by rw [nl1]; decide) (by decide) (wrong_many (by decide) (by decide) (by rw [noneL_len]; decide))
theorem pE : putJ nd1 296 4 4611686018427387905 [] = (1, nd1) := put_wrong nd1 296 4 4611686018427387905 [] 1 (by decide) (by rw [nl1]; decide) (by decide) (wrong_ser (.inr (by decide)))
theorem pF : putJ nd1 296 4 4611686018427387904 (noneL 3) = (0, nd2) := put_full (f := 296) (c := 4) lt1 (by decide) (by rw [nl1]; decide) (noneL_ok _ 3 _ (by decide) (by decide) (by decide))
theorem pG : putJ nd2 0 4 6 [⟨0, 5, 0, ⟨#[]⟩⟩, ⟨0, 5, 0, ⟨#[]⟩⟩] = (1, nd2) := put_wrong nd2 0 4 6 _ 1 (by decide) (by rw [nl2]; decide) (by decide) (wrong_rise (by decide) (by decide) (by show 2 ≤ roomN 4; decide) (fun h => absurd (h 0 (by show 1 < 2; decide) (by show 1 < 2; decide)) (by show ¬ 5 < 5; decide)))
theorem pH (b : ByteArray) (hb : b.size = 997) : putJ nd2 0 4 6 [⟨0, 0, 0, b⟩] = (82, nd2) := put_wrong nd2 0 4 6 _ 82 (by decide) (by rw [nl2]; decide) (by decide) (wrong_big (by decide) (by decide) (by show 1 ≤ roomN 4; decide) (rises_one _) ⟨_, List.mem_singleton.2 rfl, by show 996 < b.size; omega⟩)
theorem pI (b : ByteArray) (hb : b.size ≤ 996) : putJ nd2 0 4 6 [⟨0, 0, 0, b⟩] = (0, nd3 b) := put_full (f := 0) (c := 4) lt2 (by decide) (by rw [nl2]; decide) (one_ok 6 _ _ (by decide) (by decide) (by decide) hb)
theorem pJ (b : ByteArray) : putJ (nd3 b) 0 4 0 [] = (1, nd3 b) := put_wrong (nd3 b) 0 4 0 [] 1 (by decide) (by rw [nl3]; decide) (by decide) (wrong_ser (.inl rfl))
theorem pK (b : ByteArray) : putJ (nd3 b) (-1) 4 6 [] = (1, nd3 b) := put_ref _ _ _ 6 [] 300 (nl3 b) (by decide)
theorem pL (b : ByteArray) : putJ (nd3 b) 0 0 6 [] = (1, nd3 b) := put_ref _ _ _ 6 [] 300 (nl3 b) (by decide)
theorem pM (b : ByteArray) : putJ (nd3 b) 4611686018427387904 4611686018427387904 6 [] = (1, nd3 b) := put_ref _ _ _ 6 [] 300 (nl3 b) (by decide)
theorem pN (b : ByteArray) (hb : b.size ≤ 996) : putJ (nd3 b) 100 4 9 [one1] = (0, nd4 b) := put_full (f := 100) (c := 4) (lt3 b hb) (by decide) (by rw [nl3]; decide) (one_ok 9 _ _ (by decide) (by decide) (by decide) (by decide))
theorem pO (b : ByteArray) (hb : b.size ≤ 996) : putJ (nd4 b) 100 4 10 [two1] = (0, nd5 b) := put_full (f := 100) (c := 4) (lt4 b hb) (by decide) (by rw [nl4]; decide) (one_ok 10 _ _ (by decide) (by decide) (by decide) (by decide))
end Go.Proofs.YtfdfbjijomepgaaDoor
