/- The walk of WireForm. -/
import Derived.Test.YtpjepndeppckdaaDoorAgain
namespace Go.Proofs.YtpjepndeppckdaaDoor
open Go.RowKit Go.Lib Crc

theorem pre_eq (s : ByteArray) (p : Nat) (bs : List UInt8) (h : bs = s.data.toList.take p) : (bs == (s.extract 0 p).toList) = true := by
  rw [beq_iff_eq, toList_data, extract_data, h]
  simp
theorem fix_bad (s : ByteArray) (p : Nat) (e : Int) (h : e ≠ 0) : fixS s p e 1 = (0, p, e) := by
  unfold fixS rawS
  rw [if_neg (by omega), if_pos h]; rfl
theorem uint_bad (s : ByteArray) (p : Nat) (e : Int) (most : Nat) (h : e ≠ 0) : uintS s p e most = (0, p, e) := by
  unfold uintS
  rw [if_pos h]
theorem raw_bad (s : ByteArray) (p : Nat) (e : Int) (n : Int) (h : e ≠ 0) : rawS s p e n = (⟨#[]⟩, p, e) := by
  unfold rawS
  rw [if_pos h]
theorem end_bad (n p : Nat) (e : Int) (h : e ≠ 0) : endE n p e = e := by
  unfold endE
  rw [if_neg h]
set_option maxRecDepth 100000 in
set_option maxHeartbeats 2000000 in
theorem form_walk (s : ByteArray) (ao : Option Addr) (len cap : Nat) (l : List It) (w : World) (hs : s.size ≤ 140737488351232) (hi : Its w ao len l) (hT : Tab w) :
    Calls Tryd.prog 5 #[.string s, .slice ao len cap] w fun e w' => e = .returned (.bool true) ∧ Below w.heap.size w w' := by
  have hpos := hT.pos
  have HT := hide hT
  obtain ⟨hll, hlm, hok, hat⟩ := hi
  have HOK := hide hok
  have HAT := hide hat
  have HLL := hide hll
  clear hT hok hat hll
  go_enter Tryd.func5, Tryd.ntmps5
  go_wp2_with fail
  refine (works_ok w (unhide HT)).mono ?_
  rintro e w1 ⟨rfl, hb⟩
  have hsz := hb.size
  have HB := hide hb
  clear hb
  go_wp2_with fail
  refine (rNew s _).mono ?_
  rintro e w2 ⟨rfl, rfl⟩
  go_wp2_with fail
  refine (wNew _).mono ?_
  rintro e w2 ⟨rfl, rfl⟩
  rw [World.size_alloc]
  have hR := (Rd.new s w1 77 (by omega)).alloc (.cells #[.slice none 0 0] 70)
  have hW := Wr.new (w1.alloc (.cells #[.string s, .int .i64 0, .int .i64 0] 77)) 70
  rw [World.size_alloc] at hW
  have hB2 : Below w.heap.size w ((w1.alloc (.cells #[.string s, .int .i64 0, .int .i64 0] 77)).alloc (.cells #[.slice none 0 0] 70)) := ((unhide HB).alloc (by omega) _).alloc (by simp; omega) _
  have HR := hide hR
  have HW := hide hW
  have HB2 := hide hB2
  clear hR hW hB2 HB
  generalize (w1.alloc (.cells #[.string s, .int .i64 0, .int .i64 0] 77)).alloc (.cells #[.slice none 0 0] 70) = w2 at HR HW HB2 ⊢
  generalize w1.heap.size = a at *
  go_wp2
  go_loopw [7] (fun i wr => ∃ k r p : Nat, k ≤ len ∧ i = .int .i64 k ∧ Hid (Rd wr a s p 0 ∧ Wr wr (a + 1) r (s.data.toList.take p) ∧ a ≠ r ∧ w.heap.size ≤ r ∧ Below w.heap.size w wr)) (fun i _ => len - (intOf i).toNat)
  case atStart => exact ⟨0, a + 1, 0, Nat.zero_le _, rfl, hide ⟨unhide HR, by simpa using unhide HW, by omega, by omega, unhide HB2⟩⟩
  case round =>
    obtain ⟨k, r, p, hk, rfl, HI⟩ := hrel
    by_cases hlt : k < len
    · obtain ⟨x, hx⟩ : ∃ x, l[k]? = some x := ⟨l[k]'(by rw [unhide HLL]; exact hlt), List.getElem?_eq_getElem _⟩
      have hxok := unhide HOK x (List.mem_of_getElem? hx)
      obtain ⟨ib, io, rfl, hib, hcells⟩ : ∃ b off, ao = some ⟨b, off, none⟩ ∧ b < w.heap.size ∧ x.At w b (off + k * 5) := by
        rcases unhide HAT with h | ⟨b, off, h1, h2, h3⟩
        · omega
        · exact ⟨b, off, h1, h2, h3 k x hx⟩
      obtain ⟨i1, i2, i3, i4, i5⟩ := unhide HI
      obtain ⟨x0, x1, x2, x3, x4⟩ := hcells.below i5 hib
      have hple := i1.le
      have hkl : (k : Int) < (len : Int) := by omega
      have HX := hide hxok
      clear i1 i2 i3 i4 i5 hxok hx
      go_wp2_with fail
      refine (rAt a s p 0 _ (unhide HI).1).mono ?_
      rintro e w3 ⟨rfl, rfl⟩
      go_wp2_with fail
      refine (wTold (a + 1) r _ _ (unhide HI).2.1).mono ?_
      rintro e w3 ⟨rfl, rfl⟩
      go_wp2_with fail
      refine (rErr a s p 0 _ (unhide HI).1).mono ?_
      rintro e w3 ⟨rfl, rfl⟩
      go_wp2_with fail
      refine (again_walk x (unhide HX) a (a + 1) r w.heap.size p s _ _ (unhide HI).1 (unhide HI).2.1 (by omega) (unhide HI).2.2.1 (by have := (unhide HI).2.2.2.2.size; omega) (by omega) (by omega) (unhide HI).2.2.2.1 (by simp; omega) hs).mono ?_
      rintro e w4 ⟨rfl, r', bs', p', e', j1, j2, j3, j4, j5, j6, j7⟩
      have hp' := j1.le
      have HJ := hide (show Rd w4 a s p' e' ∧ Wr w4 (a + 1) r' bs' ∧ a ≠ r' ∧ w.heap.size ≤ r' ∧ Below w.heap.size w w4 from ⟨j1, j2, j3, j4, (unhide HI).2.2.2.2.trans j5⟩)
      clear j1 j2 j3 j4 j5 HI x0 x1 x2 x3 x4
      by_cases he : e' = 0
      · subst he
        obtain ⟨hbs, hpp⟩ := j6 rfl
        have HBS := hide (show bs' = s.data.toList.take p' from by rw [hbs, ← List.take_add]; congr 1; omega)
        clear j6 j7 hbs
        go_wp2_with fail
        refine (rErr a s p' 0 _ (unhide HJ).1).mono ?_
        rintro e w5 ⟨rfl, rfl⟩
        go_wp2_with fail
        refine (rAt a s p' 0 _ (unhide HJ).1).mono ?_
        rintro e w5 ⟨rfl, rfl⟩
        go_wp2_with fail
        refine (rAt a s p' 0 _ (unhide HJ).1).mono ?_
        rintro e w5 ⟨rfl, rfl⟩
        go_wp2_with fail
        refine (wTold (a + 1) r' _ _ (unhide HJ).2.1).mono ?_
        rintro e w5 ⟨rfl, rfl⟩
        go_wp2_with fail
        refine (rAt a s p' 0 _ (unhide HJ).1).mono ?_
        rintro e w5 ⟨rfl, rfl⟩
        have hstr := pre_eq s p' bs' (unhide HBS)
        have h1 : ¬ p' < p := by omega
        have h2 : ¬ s.size < p' := by omega
        go_wp2
        go_roundw
        case rel => exact ⟨k + 1, r', p', by omega, by go_num, hide (by rw [← unhide HBS]; exact unhide HJ)⟩
        case measure => simp [intOf]; omega
      · have hpp := j7 he
        subst hpp
        have HE := hide he
        have he0 : (e' != 0) = true := by rw [bne_iff_ne]; exact he
        have hstr := pre_eq s p' (s.data.toList.take p') rfl
        have h2 : ¬ (s.size : Int) < (p' : Int) := by omega
        clear j6 j7 he
        go_wp2_with fail
        refine (rErr a s p' e' _ (unhide HJ).1).mono ?_
        rintro e w5 ⟨rfl, rfl⟩
        go_wp2_with fail
        refine (rAt a s p' e' _ (unhide HJ).1).mono ?_
        rintro e w5 ⟨rfl, rfl⟩
        go_wp2_with fail
        refine (rErr a s p' e' _ (unhide HJ).1).mono ?_
        rintro e w5 ⟨rfl, rfl⟩
        go_wp2_with fail
        refine (rByte a s p' e' _ (unhide HJ).1).mono ?_
        rw [fix_bad s p' e' (unhide HE)]
        rintro e w6 ⟨rfl, q6⟩
        have Q6 := hide q6
        clear q6
        go_wp2_with fail
        refine (rInt a s p' e' _ (unhide Q6).1).mono ?_
        rw [uint_bad s p' e' _ (unhide HE)]
        rintro e w7 ⟨rfl, q7⟩
        have Q7 := hide ((unhide Q6).trans q7)
        rw [show zag 0 = 0 from rfl]
        clear q7
        go_wp2_with fail
        refine (rRaw a s p' e' 0 _ (unhide Q7).1).mono ?_
        rw [raw_bad s p' e' 0 (unhide HE)]
        rintro e w8 ⟨rfl, q8⟩
        have Q8 := hide ((unhide Q7).trans q8)
        clear q8
        go_wp2_with fail
        refine (rErr a s p' e' _ (unhide Q8).1).mono ?_
        rintro e w9 ⟨rfl, rfl⟩
        go_wp2_with fail
        refine (rEnd a s p' e' _ (unhide Q8).1).mono ?_
        rw [end_bad _ p' e' (unhide HE)]
        rintro e w9 ⟨rfl, m, rfl⟩
        go_wp2_with fail
        refine (rAt a s p' e' _ ((unhide Q8).1.drewN m)).mono ?_
        rintro e w10 ⟨rfl, he10⟩
        subst he10
        go_wp2
        go_ret
        refine ⟨rfl, ?_⟩
        exact belowDrewN ((unhide HJ).2.2.2.2.trans ((unhide Q8).below (by have := (unhide HJ).2.2.2.2.size; omega) (by omega))) m
    · go_wp2
      go_ret
      exact ⟨rfl, (unhide HI).2.2.2.2⟩
end Go.Proofs.YtpjepndeppckdaaDoor
