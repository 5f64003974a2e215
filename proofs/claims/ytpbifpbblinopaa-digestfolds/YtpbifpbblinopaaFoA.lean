/- For DigestFolds: what lies in memory while blocks are folded. -/
import Derived.Test.YtpbifpbblinopaaBlk
import Derived.Test.YtpbifpbblinopaaOpen
import Derived.Test.YtpbifpbblinopaaEq
import Derived.Test.YtpbifpbblinopaaAwk
namespace Go.Proofs.Ytpbifpbblinopaa
open Go.RowKit

theorem wp_alloc_row {P : Program} {o : Oper} {a : Act} {w : World} {K : Act → World → Prop} {Q : Exit → Act → World → Prop} (t : TypeId) (ho : o.op = .alloc t) (d : Option Tmp) (hd : o.dst = d)
    (cells : Array Value) (hz : ((P.info? t).bind (·.zero)).map (·.cells) = some cells)
    (h : ∀ w', Hid (w'.heap[w.heap.size]? = some (.cells cells t (0, 0))) → Hid (Below w.heap.size w w') → Hid (w'.heap.size = w.heap.size + 1) → K (a.put d (.pointer (some ⟨w.heap.size, 0, none⟩))) w') : o.wp P a w K Q := by
  subst hd
  obtain ⟨z, h1, h2⟩ := zero_run hz w
  unfold Oper.wp execOp
  simp only [ho, Sem.run_bind, Instr.alloc, h1, newVar, newRow, run_newObj_alloc, Sem.run_pure, Result.andThen_ok, h2]
  exact h _ (heap_alloc_new _ _) ((Below.refl _ _).alloc (Nat.le_refl _) _) (hide (by simp))
/-- the bytes at g, the state at sb -/
structure FI (W0 u : World) (g c : Nat) (L : List UInt8) (sb : Nat) (t : Sha.St) : Prop where
  br : BR W0 u g c L
  st : u.heap[sb]? = some (.cells (St8 t) 23 (0, 0))
  ne : sb ≠ g
  ge : W0.heap.size ≤ sb
theorem FI.lt {W0 u : World} {g c : Nat} {L : List UInt8} {sb : Nat} {t : Sha.St} (h : FI W0 u g c L sb t) : sb < u.heap.size := (Array.getElem?_eq_some_iff.1 h.st).1
theorem FI.below {W0 u u' : World} {g c : Nat} {L : List UInt8} {sb : Nat} {t : Sha.St} (h : FI W0 u g c L sb t) (hb : Below u.heap.size u u') : FI W0 u' g c L sb t :=
  ⟨h.br.below hb, (hb.block sb h.lt).trans h.st, h.ne, h.ge⟩
theorem FI.drew {W0 u : World} {g c : Nat} {L : List UInt8} {sb : Nat} {t : Sha.St} (h : FI W0 u g c L sb t) : FI W0 u.drew g c L sb t :=
  ⟨h.br.keep rfl ⟨h.br.bel.os, h.br.bel.tape, h.br.bel.output, h.br.bel.size, h.br.bel.block⟩, h.st, h.ne, h.ge⟩
theorem FI.range {W0 u : World} {g c : Nat} {L : List UInt8} {sb : Nat} {t : Sha.St} (h : FI W0 u g c L sb t) : u.rangeAt sb 0 (St8 t).toList := by
  intro j v hv
  rw [Nat.zero_add]
  simp only [World.cell?, h.st]
  simpa using hv
theorem FI.u1 {W0 u u' : World} {g c : Nat} {L : List UInt8} {sb nb : Nat} {t : Sha.St} (h : FI W0 u g c L sb t) (hu : U1 u u' nb) (h1 : nb ≠ sb) (h2 : nb ≠ g) (h3 : W0.heap.size ≤ nb) : FI W0 u' g c L sb t :=
  ⟨h.br.keep (hu.block g h.br.lt (Ne.symm h2)) (h.br.bel.trans (hu.toBelow h.br.bel.size h3)), (hu.block sb h.lt (Ne.symm h1)).trans h.st, h.ne, h.ge⟩
/-- .. and a new state at nb -/
structure FN (W0 u : World) (g c : Nat) (L : List UInt8) (sb : Nat) (t : Sha.St) (nb : Nat) (cells : Array Value) : Prop where
  fi : FI W0 u g c L sb t
  row : u.heap[nb]? = some (.cells cells 23 (0, 0))
  n1 : nb ≠ sb
  n2 : nb ≠ g
  n3 : W0.heap.size ≤ nb
theorem FN.lt {W0 u : World} {g c : Nat} {L : List UInt8} {sb nb : Nat} {t : Sha.St} {cells : Array Value} (h : FN W0 u g c L sb t nb cells) : nb < u.heap.size := (Array.getElem?_eq_some_iff.1 h.row).1
theorem FN.make {W0 u u' : World} {g c : Nat} {L : List UInt8} {sb : Nat} {t : Sha.St} {cells : Array Value} (h : FI W0 u g c L sb t) (hb : Below u.heap.size u u') (hr : u'.heap[u.heap.size]? = some (.cells cells 23 (0, 0))) : FN W0 u' g c L sb t u.heap.size cells :=
  ⟨h.below hb, hr, by have := h.lt; omega, by have := h.br.lt; omega, h.br.bel.size⟩
theorem FN.below {W0 u u' : World} {g c : Nat} {L : List UInt8} {sb nb : Nat} {t : Sha.St} {cells : Array Value} (h : FN W0 u g c L sb t nb cells) (hb : Below u.heap.size u u') : FN W0 u' g c L sb t nb cells :=
  ⟨h.fi.below hb, (hb.block nb h.lt).trans h.row, h.n1, h.n2, h.n3⟩
theorem FN.there {W0 u : World} {g c : Nat} {L : List UInt8} {sb nb : Nat} {t : Sha.St} (h : FN W0 u g c L sb t nb Z8) : u.there nb 0 8 := by
  intro j hj
  rw [Nat.zero_add]
  refine ⟨?_, by simp [World.frozen?, h.row]⟩
  simp only [World.cell?, h.row]
  simp [Z8, hj]
theorem FN.store {W0 u : World} {g c : Nat} {L : List UInt8} {sb nb : Nat} {t : Sha.St} (h : FN W0 u g c L sb t nb Z8) (t2 : Sha.St) : FN W0 (u.setCells nb 0 (St8 t2).toList) g c L sb t nb (St8 t2) := by
  have hu : U1 u (u.setCells nb 0 (St8 t2).toList) nb := U1.cells _ _ _ (U1.refl _ _)
  have hrr := heap_setCells (St8 t2).toList 0 u Z8.toList h.row (by simp [St8, Z8])
  have es : splice Z8.toList 0 (St8 t2).toList = (St8 t2).toList := by simp [splice, St8, Z8]
  rw [es] at hrr
  exact ⟨h.fi.u1 hu h.n1 h.n2 h.n3, hrr, h.n1, h.n2, h.n3⟩
theorem FI.made {W0 u u' : World} {g c : Nat} {L : List UInt8} {sb : Nat} {t t2 : Sha.St} (h : FI W0 u g c L sb t) (hr : u'.heap[sb]? = some (.cells (St8 t2) 23 (0, 0))) (hu : U1 u u' sb) : FI W0 u' g c L sb t2 :=
  ⟨h.br.keep (hu.block g h.br.lt (Ne.symm h.ne)) (h.br.bel.trans (hu.toBelow h.br.bel.size h.ge)), hr, h.ne, h.ge⟩
theorem extract_list (s : ByteArray) (f x : Nat) : (s.extract f x).data.toList = (s.data.toList.take x).drop f := by
  rw [ByteArray.data_extract, Array.toList_extract, List.extract, List.drop_take]
theorem take_extract (s : ByteArray) (f x : Nat) (h : f ≤ x) : s.data.toList.take f ++ (s.extract f x).data.toList = s.data.toList.take x := by
  rw [extract_list]
  have : s.data.toList.take f = (s.data.toList.take x).take f := by rw [List.take_take, Nat.min_eq_left h]
  rw [this, List.take_append_drop]
theorem extract_sz (s : ByteArray) (f x : Nat) (hx : x ≤ s.size) : (s.extract f x).size = x - f := by
  rw [← list_size, extract_list, List.length_drop, List.length_take, list_size, Nat.min_eq_left hx]
/-- at the end: the Hash at h, the sum at ob -/
structure JJ (w u : World) (h ob : Nat) (l : List UInt8) : Prop where
  hs : Hs u h l
  bel : Below w.heap.size w u
  row : u.heap[ob]? = some (.cells (ofCells l) 38 (0, 0))
theorem JJ.below {w u u' : World} {h ob : Nat} {l : List UInt8} (k : JJ w u h ob l) (hb : Below u.heap.size u u') : JJ w u' h ob l :=
  ⟨k.hs.below hb, k.bel.trans (hb.mono k.bel.size), (hb.block ob (Array.getElem?_eq_some_iff.1 k.row).1).trans k.row⟩
theorem JJ.drew {w u : World} {h ob : Nat} {l : List UInt8} (k : JJ w u h ob l) : JJ w u.drew h ob l := ⟨k.hs.keep rfl, ⟨k.bel.os, k.bel.tape, k.bel.output, k.bel.size, k.bel.block⟩, k.row⟩
theorem JJ.range {w u : World} {h ob : Nat} {l : List UInt8} (k : JJ w u h ob l) : u.rangeAt ob 0 (ofCells l).toList := by
  intro j v hv
  rw [Nat.zero_add]
  simp only [World.cell?, k.row]
  simpa using hv
theorem ofCells_int (l : List UInt8) : ∀ j, j < 32 → ∃ k x, (ofCells l)[j]? = some (.int k x) := fun j hj =>
  ⟨.u8, _, by rw [ofCells, List.getElem?_toArray, byteCells_at _ j (by rw [Sha.of_length]; exact hj)]⟩
end Go.Proofs.Ytpbifpbblinopaa
