/- Vectors: Put into a writer, Encode. -/
import Derived.Test.YtbahfpcfjhifbaaXk
namespace Go.Proofs.Ytbahfpcfjhifbaa
open Go.RowKit
/-- a dot's bytes, dots' bytes, a vector's bytes -/
def dotB (d : Nat × Nat) : List UInt8 := W.uintB 9 d.1 ++ W.uintB 9 d.2
def dotsB (l : List (Nat × Nat)) : List UInt8 := l.flatMap dotB
def vecB (l : List (Nat × Nat)) : List UInt8 := W.uintB 9 l.length ++ dotsB l
theorem uintB_len (f v : Nat) : 1 ≤ (W.uintB f v).length ∧ (W.uintB f v).length ≤ f + 1 := by
  induction f generalizing v with
  | zero => simp [W.uintB]
  | succ f ih => simp only [W.uintB]; split <;> simp <;> have := ih (v / 128) <;> omega
theorem dotB_len (d : Nat × Nat) : (dotB d).length ≤ 20 := by
  have h1 := (uintB_len 9 d.1).2
  have h2 := (uintB_len 9 d.2).2
  simp only [dotB, List.length_append]; omega
theorem dotsB_len (l : List (Nat × Nat)) : (dotsB l).length ≤ 20 * l.length := by
  induction l with
  | nil => simp [dotsB]
  | cons d l ih =>
    have := dotB_len d
    simp only [dotsB, List.flatMap_cons, List.length_append, List.length_cons] at ih ⊢
    omega
theorem dotsB_take (l : List (Nat × Nat)) {k : Nat} (h : k < l.length) : dotsB (l.take (k + 1)) = dotsB (l.take k) ++ W.uintB 9 l[k].1 ++ W.uintB 9 l[k].2 := by
  rw [List.take_succ_eq_append_getElem h, dotsB, List.flatMap_append]
  simp [dotsB, dotB, List.append_assoc]
theorem Wr.below {w w' : World} {a r : Nat} {bs : List UInt8} (h : W.Wr w a r bs) (hb : Below w.heap.size w w') : W.Wr w' a r bs := W.Wr.same h hb.size (hb.block a h.1) (hb.block r h.2.1)
/-- a writer of one's own, behind the block B -/
structure Wn (u w : World) (B a r : Nat) (bs : List UInt8) : Prop where
  wr : W.Wr w a r bs
  below : Below B u w
  sz : B ≤ w.heap.size
  ha : B ≤ a
  hr : B ≤ r
theorem Wn.put {u w w' : World} {B a r r' : Nat} {bs bs' : List UInt8} (h : Wn u w B a r bs) (hp : W.Put w w' a r r' bs') : Wn u w' B a r' bs' :=
  ⟨hp.1, h.below.trans (hp.2.2.below h.sz h.ha h.hr), Nat.le_trans h.sz hp.2.2.size, h.ha, by rcases hp.2.1 with e | e; rw [e]; exact h.hr; exact Nat.le_trans h.sz e⟩
theorem Wn.belw {u w w' : World} {B a r : Nat} {bs : List UInt8} (h : Wn u w B a r bs) (hb : Below w.heap.size w w') : Wn u w' B a r bs :=
  ⟨Wr.below h.wr hb, h.below.trans (hb.mono h.sz), Nat.le_trans h.sz hb.size, h.ha, h.hr⟩
theorem Wn.max {u w : World} {B a r : Nat} {bs : List UInt8} (h : Wn u w B a r bs) : bs.length ≤ 140737488355328 := h.wr.2.2.1
set_option maxRecDepth 100000 in
set_option maxHeartbeats 4000000 in
theorem vPut (l : List (Nat × Nat)) (ao : Option Addr) (c a r : Nat) (bs : List UInt8) (u0 u : World) (h : DAt u0 l ao) (hw : Wn u0 u u0.heap.size a r bs) (hbs : bs.length ≤ 1000000) :
    Calls Try.prog 65 #[.pointer (some ⟨a, 0, none⟩), .slice ao l.length c] u fun e u' => ∃ r', (V.okB l = true → e = .returned (.int .i64 0) ∧ Wn u0 u' u0.heap.size a r' (bs ++ vecB l)) ∧ (V.okB l = false → e = .returned (.int .i64 100) ∧ Wn u0 u' u0.heap.size a r' bs) := by
  have HV := hide (vValid l ao c u (h.below hw.below))
  have HW := hide hw
  have HQ := hide h.lies
  have HF := hide h.fits
  have HX : Hid (∀ (w : World) (r : Nat) (bs : List UInt8) (v : Nat), Wn u0 w u0.heap.size a r bs → v < 18446744073709551616 → bs.length ≤ 1001300 → Calls Try.prog 66 #[.pointer (some ⟨a, 0, none⟩), .int .u64 (v : Int)] w fun e w' => e = .returned (.tuple #[]) ∧ ∃ r', Wn u0 w' u0.heap.size a r' (bs ++ W.uintB 9 v) ∧ W.Upd w w' a r) := fun w r bs v hw hv hb => by
    refine (W.wUint a r bs v w hw.wr hv (by omega)).mono ?_
    rintro e w' ⟨rfl, r', hp⟩
    exact ⟨rfl, r', hw.put hp, hp.2.2⟩
  clear h hw
  obtain ⟨N, hN⟩ : ∃ N, N = u0.heap.size := ⟨_, rfl⟩
  have HN := hide hN
  rw [← hN] at HW HX ⊢
  clear hN
  cases hok : V.okB l with
  | false =>
    rw [hok] at HV
    go_enter Try.func65, Try.ntmps65
    go_wp2_with (first | (go_at_call 39; refine (unhide HV).mono ?_; rintro e w1 ⟨rfl, hb1⟩) | fail)
    go_ret
    exact ⟨r, fun h => (by cases h), fun _ => ⟨rfl, (unhide HW).belw hb1⟩⟩
  | true =>
    rw [hok] at HV
    have hl64 : l.length ≤ 64 := (V.okB_true.1 hok).len
    have HE : Hid (bs ++ vecB l = bs ++ W.uintB 9 l.length ++ dotsB (l.take l.length)) := by rw [List.take_length, vecB, List.append_assoc]; exact rfl
    have HL : Hid (∀ k, k ≤ l.length → (bs ++ W.uintB 9 l.length ++ dotsB (l.take k)).length ≤ 1001290) := fun k hk => by
      have h1 := (uintB_len 9 l.length).2
      have h2 := dotsB_len (l.take k)
      rw [List.length_take] at h2
      simp only [List.length_append]
      omega
    have HT := hide (fun k (hk : k < l.length) => dotsB_take l hk)
    obtain ⟨n, hn⟩ : ∃ n, n = l.length := ⟨_, rfl⟩
    have HLN := hide hn
    rw [← hn] at hl64 HV HE HL ⊢
    have h64i : (n : Int) ≤ 64 := by omega
    have hcv : IntKind.u64.wrap (n : Int) = (n : Int) := by rw [IntKind.wrap_u64]; omega
    clear hn hok
    go_enter Try.func65, Try.ntmps65
    go_wp2_with (first
      | (go_at_call 39; refine (unhide HV).mono ?_; rintro e w1 ⟨rfl, hb1⟩; have HW1 := hide ((unhide HW).belw hb1); clear hb1)
      | (go_at_call 66; refine (unhide HX _ r bs n (unhide HW1) (by omega) (by omega)).mono ?_; rintro e w2 ⟨rfl, r2, hw2, _⟩; have HW2 := hide hw2; clear hw2)
      | fail)
    go_loopw [19] (fun i wr => ∃ (k : Nat), k ≤ n ∧ i = .int .i64 k ∧ Hid (∃ r', Wn u0 wr N a r' (bs ++ W.uintB 9 n ++ dotsB (l.take k)))) (fun i _ => n - (intOf i).toNat)
    case atStart => exact ⟨0, Nat.zero_le _, rfl, r2, by rw [List.take_zero, show dotsB [] = [] from rfl, List.append_nil]; exact unhide HW2⟩
    case round =>
      clear HW1 HW2
      obtain ⟨k, hk, rfl, HI⟩ := hrel
      obtain ⟨r3, hI⟩ := unhide HI
      have HI := hide hI
      clear hI
      by_cases hlt : k < n
      · have hki : (k : Int) < (n : Int) := by omega
        have hkl : k < l.length := by rw [← unhide HLN]; exact hlt
        obtain ⟨g, o, hao, c1, c2⟩ := ((unhide HQ).below (by rw [← unhide HN]; exact (unhide HI).below)).dt hkl
        subst hao
        have hix := ixD g o n c k hlt
        have hf := unhide HF _ (List.getElem_mem hkl)
        have HTK := hide (unhide HT k hkl)
        obtain ⟨M, hM⟩ : ∃ M, M = wr.heap.size := ⟨_, rfl⟩
        have HM := hide hM
        have HLK := hide (unhide HL k (by omega))
        have HMA : Hid (M ≠ a ∧ M ≠ r3) := by have h1 := (unhide HI).wr.1; have h2 := (unhide HI).wr.2.1; rw [hM]; exact ⟨by omega, by omega⟩
        clear hM
        generalize l[k] = q at *
        obtain ⟨qa, qc⟩ := q
        have c1 : wr.cell? ⟨g, o + k * 2, none⟩ = some (.int .u32 (qa : Int)) := c1
        have c2 : wr.cell? ⟨g, o + k * 2 + 1, none⟩ = some (.int .u64 (qc : Int)) := c2
        have HF1 : Hid (qa < 4294967296) := hf.1
        have HF2 : Hid (qc < 18446744073709551616) := hf.2
        have hcq : IntKind.u64.wrap (qa : Int) = (qa : Int) := by have := hf.1; simp only at this; rw [IntKind.wrap_u64]; omega
        generalize o + k * 2 = oo at *
        clear hf
        have HLK2 : Hid ((bs ++ W.uintB 9 n ++ dotsB (l.take k) ++ W.uintB 9 qa).length ≤ 1001300) := by
          have h1 := (uintB_len 9 qa).2
          have h2 := unhide HLK
          have h3 : (bs ++ W.uintB 9 n ++ dotsB (l.take k)).length + (W.uintB 9 qa).length ≤ 1001300 := by omega
          rw [List.length_append]
          exact h3
        go_wp2_with (first
          | ((with_reducible refine wpList_alloc_dot (by rfl) (by rfl) (some 6) (by rfl) M (unhide HM) ?_); intro W1 HX1 HB1 HS1; simp only [Act.put, List.setIfInBounds_toArray, List.set_cons_zero, List.set_cons_succ])
          | ((with_reducible refine wpList_store_dot (by rfl) (.tmp 6) (.tmp 22) (by rfl) M (qa : Int) (qc : Int) (by with_unfolding_all rfl) (by with_unfolding_all rfl) (unhide HX1) ?_); intro W2 HX2 HE2; simp only [Act.put]; obtain ⟨y0, y1⟩ := box2 (unhide HX2); have HW2 := hide ((unhide HI).belw (w' := W2) (by rw [← unhide HM, unhide HE2]; exact belowRow (unhide HB1) (Nat.le_refl _) _)))
          | (go_at_call_of 66 (Value.int IntKind.u64 (qa : Int)); have _t := HLK; refine (unhide HX _ r3 _ qa (unhide HW2) (Nat.lt_trans (unhide HF1) (by decide)) (Nat.le_trans (unhide HLK) (by decide))).mono ?_; rintro e w3 ⟨rfl, r4, hw3, hu3⟩; have HW3 := hide hw3; clear hw3 _t HLK; obtain ⟨_, hyy⟩ := box2 ((hu3.block M (Array.getElem?_eq_some_iff.1 (unhide HX2)).1 (unhide HMA).1 (unhide HMA).2).trans (unhide HX2)); clear hu3)
          | (go_at_call 66; refine (unhide HX _ r4 _ qc (unhide HW3) (unhide HF2) (unhide HLK2)).mono ?_; rintro e w4 ⟨rfl, r5, hw4, _⟩; have HW4 := hide hw4; clear hw4)
          | fail)
        go_roundw
        case rel => exact ⟨k + 1, by omega, by go_num, r5, by rw [unhide HTK, ← List.append_assoc, ← List.append_assoc]; exact unhide HW4⟩
        case measure => simp [intOf]; omega
      · obtain rfl : k = n := by omega
        have hki : ¬ (k : Int) < (k : Int) := by omega
        go_wp2
        go_ret
        exact ⟨rfl, r3, by rw [unhide HE]; exact unhide HI⟩
/-- what Encode answers -/
noncomputable def encV (l : List (Nat × Nat)) : ByteArray × Int := if V.okB l then (⟨(vecB l).toArray⟩, 0) else (⟨#[]⟩, 100)
theorem Wn.new (u : World) (t : TypeId) : Wn u (u.alloc (.cells #[.slice none 0 0] t)) u.heap.size u.heap.size u.heap.size [] :=
  ⟨W.Wr.new u t, (Below.refl _ _).alloc (Nat.le_refl _) _, by simp, Nat.le_refl _, Nat.le_refl _⟩
end Go.Proofs.Ytbahfpcfjhifbaa
