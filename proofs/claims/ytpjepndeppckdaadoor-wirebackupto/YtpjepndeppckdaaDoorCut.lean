/- The walk of WireCut. -/
import Derived.Test.YtpjepndeppckdaaDoorBackS
import Derived.Test.YtpjepndeppckdaaDoorForm
namespace Go.Proofs.YtpjepndeppckdaaDoor
open Go.RowKit Go.Lib Crc

/-- the bytes of those that may be put -/
def forms (l : List It) : List UInt8 := (l.filter fitB).flatMap It.form
/-- how much came in -/
def wt : List It → Nat
  | [] => 0
  | x :: l => x.s.size + 6 + wt l
theorem wt_append (a b : List It) : wt (a ++ b) = wt a + wt b := by
  induction a with
  | nil => simp [wt]
  | cons x a ih => simp only [List.cons_append, wt, ih]; omega
theorem wt_mem {l : List It} {x : It} (h : x ∈ l) : x.s.size + 6 ≤ wt l := by
  induction l with
  | nil => cases h
  | cons y l ih =>
    rcases List.mem_cons.1 h with e | e
    · subst e; simp only [wt]; omega
    · have := ih e; simp only [wt]; omega
theorem fit_n {x : It} (h : fitB x = true) : x.n ≤ 8 ∨ x.kind ≠ 2 := by
  unfold fitB at h
  by_cases k : x.kind = 2
  · rw [if_pos k, decide_eq_true_eq] at h; exact .inl h.2.1
  · exact .inr k
theorem forms_cons (x : It) (l : List It) : forms (x :: l) = (if fitB x = true then x.form else []) ++ forms l := by
  unfold forms
  rw [List.filter_cons]
  split <;> simp
theorem forms_append (a b : List It) : forms (a ++ b) = forms a ++ forms b := by simp [forms]
theorem forms_len (l : List It) : (forms l).length ≤ 2 * wt l := by
  induction l with
  | nil => simp [forms]
  | cons x l ih =>
    rw [forms_cons, List.length_append]
    simp only [wt]
    split
    · rename_i h
      have := form_len x (fit_n h)
      omega
    · simp; omega
theorem take_succ' {l : List It} {k : Nat} {x : It} (h : l[k]? = some x) : l.take (k + 1) = l.take k ++ [x] := by
  rw [List.take_add_one, h]; rfl
theorem drop_succ' {l : List It} {k : Nat} {x : It} (h : l[k]? = some x) : l.drop k = x :: l.drop (k + 1) := by
  obtain ⟨hk, e⟩ := List.getElem?_eq_some_iff.1 h
  rw [List.drop_eq_getElem_cons hk, e]
/-- how far a reader of a cut text is -/
def CutAt (l : List It) (s : ByteArray) (k p : Nat) (e : Int) : Prop :=
  (e = 0 ∧ p + (forms (l.drop k)).length = (forms l).length ∧ s.data.toList.drop p = (forms (l.drop k)).take (s.size - p)) ∨ e = 10
theorem cut_step {l : List It} {s : ByteArray} {k p : Nat} {e : Int} {x : It} (h : CutAt l s k p e) (hx : l[k]? = some x) (hok : x.Ok) (hsz : x.s.size < 9223372036854775808) (hp : p ≤ s.size) :
    (fitB x = false → CutAt l s (k + 1) p e) ∧ (fitB x = true → CutAt l s (k + 1) (bkS x s p e).2.1 (bkS x s p e).2.2 ∧ ((bkS x s p e).1 = true ∨ (bkS x s p e).2.2 = 10)) := by
  have hd := drop_succ' hx
  constructor
  · intro hf
    rcases h with ⟨h1, h2, h3⟩ | h
    · have e1 : forms (l.drop k) = forms (l.drop (k + 1)) := by rw [hd, forms_cons, if_neg (by rw [hf]; simp), List.nil_append]
      rw [e1] at h2 h3
      exact .inl ⟨h1, h2, h3⟩
    · exact .inr h
  · intro hf
    rcases h with ⟨rfl, h2, h3⟩ | rfl
    · have e1 : forms (l.drop k) = x.form ++ forms (l.drop (k + 1)) := by rw [hd, forms_cons, if_pos hf]
      rw [e1] at h2 h3
      rw [List.length_append] at h2
      by_cases hm : x.form.length ≤ s.size - p
      · have h4 : s.data.toList.drop p = x.form ++ (forms (l.drop (k + 1))).take (s.size - p - x.form.length) := by
          rw [h3, List.take_append, List.take_of_length_le hm]
        rw [bk_fwd x hok hf hsz s p _ hp h4]
        refine ⟨.inl ⟨rfl, by show p + x.form.length + _ = _; omega, ?_⟩, .inl rfl⟩
        show s.data.toList.drop (p + x.form.length) = _
        rw [← List.drop_drop, h4, List.drop_left]
        congr 1
        show _ = s.size - (p + x.form.length)
        omega
      · have h4 : s.data.toList.drop p = x.form.take (s.size - p) := by
          rw [h3, List.take_append_of_le_length (by omega)]
        have := bk_cut x hok hf hsz s p (s.size - p) hp h4 (by omega)
        exact ⟨.inr this, .inr this⟩
    · have := bk_bad x s p 10 (by decide)
      exact ⟨.inr this, .inr this⟩
set_option maxRecDepth 100000 in
set_option maxHeartbeats 2000000 in
theorem cut_walk (ao : Option Addr) (len cap : Nat) (l : List It) (cut : Int) (w : World) (hi : Its w ao len l) (hwt : wt l ≤ 1048576) (hT : Tab w) :
    Calls Tryd.prog 6 #[.slice ao len cap, .int .i64 cut] w fun e w' => e = .returned (.bool true) ∧ Below w.heap.size w w' := by
  have hpos := hT.pos
  have HT := hide hT
  obtain ⟨hll, hlm, hok, hat⟩ := hi
  have HOK := hide hok
  have HAT := hide hat
  have HLL := hide hll
  have hfl := forms_len l
  clear hT hok hat hll
  go_enter Tryd.func6, Tryd.ntmps6
  go_wp2_with fail
  refine (works_ok w (unhide HT)).mono ?_
  rintro e w1 ⟨rfl, hb⟩
  have hsz := hb.size
  have HB := hide hb
  clear hb
  go_wp2_with fail
  refine (wNew _).mono ?_
  rintro e w2 ⟨rfl, rfl⟩
  have HW := hide (Wr.new w1 70)
  have HB2 : Hid (Below w.heap.size w (w1.alloc (.cells #[.slice none 0 0] 70))) := (unhide HB).alloc (by omega) _
  clear HB
  generalize w1.alloc (.cells #[.slice none 0 0] 70) = w2 at HW HB2 ⊢
  generalize w1.heap.size = b at *
  go_wp2
  go_loopw [6] (fun i wr => ∃ k r : Nat, k ≤ len ∧ i = .int .i64 k ∧ Hid (Wr wr b r (forms (l.take k)) ∧ w.heap.size ≤ r ∧ Below w.heap.size w wr)) (fun i _ => len - (intOf i).toNat)
  case atStart => exact ⟨0, b, Nat.zero_le _, rfl, hide ⟨by simpa [forms] using unhide HW, by omega, unhide HB2⟩⟩
  case round =>
    obtain ⟨k, r, hk, rfl, HI⟩ := hrel
    by_cases hlt : k < len
    · obtain ⟨x, hx⟩ : ∃ x, l[k]? = some x := ⟨l[k]'(by rw [unhide HLL]; exact hlt), List.getElem?_eq_getElem _⟩
      have hxok := unhide HOK x (List.mem_of_getElem? hx)
      obtain ⟨ib, io, rfl, hib, hcells⟩ : ∃ b off, ao = some ⟨b, off, none⟩ ∧ b < w.heap.size ∧ x.At w b (off + k * 5) := by
        rcases unhide HAT with h | ⟨b, off, h1, h2, h3⟩
        · omega
        · exact ⟨b, off, h1, h2, h3 k x hx⟩
      obtain ⟨i1, i2, i3⟩ := unhide HI
      obtain ⟨x0, x1, x2, x3, x4⟩ := hcells.below i3 hib
      have HAt := hide hcells
      have hkl : (k : Int) < (len : Int) := by omega
      have hxw := wt_mem (List.mem_of_getElem? hx)
      have hbl : (forms (l.take k)).length ≤ 2097152 := by
        have h1 := forms_len (l.take k)
        have h2 := wt_append (l.take k) (l.drop k)
        rw [List.take_append_drop] at h2
        omega
      have HX := hide hxok
      have HXS := hide (take_succ' hx)
      clear i1 i2 i3 hxok hx hcells
      go_wp2_with fail
      refine (fits_walk x (unhide HX) _).mono ?_
      rintro e w3 ⟨rfl, hb3⟩
      have HB3 := hide hb3
      have hb3s := (unhide HI).2.2.size
      obtain ⟨y0, y1, y2, y3, y4⟩ := (unhide HAt).below ((unhide HI).2.2.trans (hb3.mono hb3s)) hib
      clear hb3 x0 x1 x2 x3 x4
      by_cases hf : fitB x = true
      · go_wp2_with fail
        refine (put_walk x (unhide HX) hf b r _ _ ((unhide HI).1.below' (unhide HB3)) (by omega)).mono ?_
        rintro e w4 ⟨rfl, r', hp⟩
        have HP := hide hp
        clear hp y0 y1 y2 y3 y4
        go_wp2
        go_roundw
        case rel =>
          have hp := unhide HP
          refine ⟨k + 1, r', by omega, by go_num, hide ⟨?_, ?_, ?_⟩⟩
          · rw [unhide HXS, forms_append]
            have : forms [x] = x.form := by rw [forms_cons, if_pos hf]; simp [forms]
            rw [this]; exact hp.1
          · rcases hp.2.1 with h | h
            · rw [h]; exact (unhide HI).2.1
            · have := (unhide HB3).size; omega
          · exact ((unhide HI).2.2.trans ((unhide HB3).mono hb3s)).trans (hp.below (by have := (unhide HB3).size; omega) (by omega) (unhide HI).2.1)
        case measure => simp [intOf]; omega
      · have hf' : fitB x = false := by simpa using hf
        clear hf
        go_wp2
        go_roundw
        case rel =>
          refine ⟨k + 1, r, by omega, by go_num, hide ⟨?_, (unhide HI).2.1, (unhide HI).2.2.trans ((unhide HB3).mono hb3s)⟩⟩
          rw [unhide HXS, forms_append]
          have : forms [x] = [] := by rw [forms_cons, if_neg (by rw [hf']; simp)]; simp [forms]
          rw [this, List.append_nil]
          exact (unhide HI).1.below' (unhide HB3)
        case measure => simp [intOf]; omega
    · have hkk : k = len := by omega
      have HF := hide (show l.take k = l from List.take_of_length_le (by rw [unhide HLL]; omega))
      rw [unhide HF] at HI
      go_wp2_with fail
      refine (wTold b r _ _ (unhide HI).1).mono ?_
      rintro e w3 ⟨rfl, rfl⟩
      by_cases h0 : (forms l).length = 0
      · have hz : (((forms l).length : Int) == 0) = true := by rw [beq_iff_eq]; omega
        go_wp2
        go_ret
        exact ⟨rfl, (unhide HI).2.2⟩
      · have hz : (((forms l).length : Int) == 0) = false := by rw [beq_eq_false_iff_ne]; omega
        have hz' : ¬ ((forms l).length : Int) = 0 := by omega
        have hA : (0 ≤ cut.tmod (forms l).length ∧ ∃ A : Nat, cut.tmod (forms l).length = (A : Int) ∧ A < (forms l).length) ∨ (cut.tmod (forms l).length < 0 ∧ ∃ A : Nat, cut.tmod (forms l).length + (forms l).length = (A : Int) ∧ A < (forms l).length) := by
          have h1 := Int.tmod_lt_of_pos cut (show 0 < ((forms l).length : Int) by omega)
          have h2 := Int.lt_tmod_of_pos cut (show 0 < ((forms l).length : Int) by omega)
          by_cases h : 0 ≤ cut.tmod (forms l).length
          · exact .inl ⟨h, (cut.tmod (forms l).length).toNat, by omega, by omega⟩
          · exact .inr ⟨by omega, (cut.tmod (forms l).length + (forms l).length).toNat, by omega, by omega⟩
        rcases hA with ⟨hneg, A, hA, hAl⟩ | ⟨hneg, A, hA, hAl⟩
        all_goals
          obtain ⟨s', hs', hsd, hss⟩ : ∃ s' : ByteArray, ({ data := (forms l).toArray } : ByteArray).extract 0 A = s' ∧ s'.data.toList = (forms l).take A ∧ s'.size = A := by
            refine ⟨_, rfl, ?_, ?_⟩
            · rw [extract_data]; simp
            · rw [← size_toList, extract_data]; simp; omega
          have HSD := hide (And.intro hsd hss)
          have hsl : s'.size ≤ 2097152 := by omega
          clear hsd hss
          go_wp2_with fail
          refine (rNew s' _).mono ?_
          rintro e w4 ⟨rfl, rfl⟩
          have HR := hide (Rd.new s' w3 77 (by omega))
          have HB4 : Hid (Below w.heap.size w (w3.alloc (.cells #[.string s', .int .i64 0, .int .i64 0] 77))) := (unhide HI).2.2.alloc (unhide HI).2.2.size _
          have hc0 := (unhide HI).2.2.size
          clear HI HF hs' hA hneg
          generalize w3.alloc (.cells #[.string s', .int .i64 0, .int .i64 0] 77) = w4 at HR HB4 ⊢
          generalize w3.heap.size = c at *
          go_wp2
          go_loopw [9] (fun i wr => ∃ k p : Nat, ∃ e : Int, k ≤ len ∧ i = .int .i64 k ∧ Hid (Rd wr c s' p e ∧ CutAt l s' k p e ∧ Below w.heap.size w wr)) (fun i _ => len - (intOf i).toNat)
          case atStart =>
            refine ⟨0, 0, 0, Nat.zero_le _, rfl, hide ⟨unhide HR, .inl ⟨rfl, by simp, ?_⟩, unhide HB4⟩⟩
            rw [List.drop_zero, List.drop_zero, (unhide HSD).1, (unhide HSD).2, Nat.sub_zero]
          case round =>
            obtain ⟨k2, p, e, hk2, rfl, HI⟩ := hrel
            by_cases hlt2 : k2 < len
            · obtain ⟨x, hx⟩ : ∃ x, l[k2]? = some x := ⟨l[k2]'(by rw [unhide HLL]; exact hlt2), List.getElem?_eq_getElem _⟩
              have hxok := unhide HOK x (List.mem_of_getElem? hx)
              obtain ⟨ib, io, rfl, hib, hcells⟩ : ∃ b off, ao = some ⟨b, off, none⟩ ∧ b < w.heap.size ∧ x.At w b (off + k2 * 5) := by
                rcases unhide HAT with h | ⟨b, off, h1, h2, h3⟩
                · omega
                · exact ⟨b, off, h1, h2, h3 k2 x hx⟩
              obtain ⟨i1, i2, i3⟩ := unhide HI
              obtain ⟨x0, x1, x2, x3, x4⟩ := hcells.below i3 hib
              have HAt := hide hcells
              have hkl : (k2 : Int) < (len : Int) := by omega
              have hxw := wt_mem (List.mem_of_getElem? hx)
              have HX := hide hxok
              have HC := hide (cut_step i2 hx hxok (by omega) i1.le)
              clear i1 i2 i3 hxok hx hcells
              go_wp2_with fail
              refine (fits_walk x (unhide HX) _).mono ?_
              rintro e3 w5 ⟨rfl, hb3⟩
              have HB3 := hide hb3
              have hb3s := (unhide HI).2.2.size
              obtain ⟨y0, y1, y2, y3, y4⟩ := (unhide HAt).below ((unhide HI).2.2.trans (hb3.mono hb3s)) hib
              clear hb3 x0 x1 x2 x3 x4
              by_cases hf : fitB x = true
              · have HBK := hide (back_walk x hf (by omega) c w.heap.size p s' e _ ((unhide HI).1.below' (unhide HB3)) (by have := (unhide HB3).size; omega) (by omega))
                have HC2 := hide ((unhide HC).2 hf)
                clear HC
                generalize bkS x s' p e = q at HBK HC2
                obtain ⟨q1, q2, q3⟩ := q
                simp only at HBK HC2
                go_wp2_with fail
                refine (unhide HBK).mono ?_
                rintro e4 w6 ⟨rfl, hbk⟩
                have HBK6 := hide hbk
                clear hbk y0 y1 y2 y3 y4
                cases q1 with
                | true =>
                  go_wp2
                  go_roundw
                  case rel => exact ⟨k2 + 1, q2, q3, by omega, by go_num, hide ⟨(unhide HBK6).1, (unhide HC2).1, ((unhide HI).2.2.trans ((unhide HB3).mono hb3s)).trans (unhide HBK6).2⟩⟩
                  case measure => simp [intOf]; omega
                | false =>
                  have hq3 : q3 = 10 := by rcases (unhide HC2).2 with h | h; cases h; exact h
                  subst hq3
                  go_wp2_with fail
                  refine (rErr c s' q2 10 _ (unhide HBK6).1).mono ?_
                  rintro e5 w7 ⟨rfl, rfl⟩
                  go_wp2
                  go_roundw
                  case rel => exact ⟨k2 + 1, q2, 10, by omega, by go_num, hide ⟨(unhide HBK6).1, (unhide HC2).1, ((unhide HI).2.2.trans ((unhide HB3).mono hb3s)).trans (unhide HBK6).2⟩⟩
                  case measure => simp [intOf]; omega
              · have hf' : fitB x = false := by simpa using hf
                clear hf
                go_wp2
                go_roundw
                case rel => exact ⟨k2 + 1, p, e, by omega, by go_num, hide ⟨(unhide HI).1.below' (unhide HB3), (unhide HC).1 hf', (unhide HI).2.2.trans ((unhide HB3).mono hb3s)⟩⟩
                case measure => simp [intOf]; omega
            · have he : e = 10 := by
                rcases (unhide HI).2.1 with ⟨_, h2, h3⟩ | h
                · exfalso
                  rw [List.drop_eq_nil_of_le (by rw [unhide HLL]; omega)] at h2
                  have h4 : (forms []).length = 0 := rfl
                  have := (unhide HI).1.le
                  have := (unhide HSD).2
                  omega
                · exact h
              subst he
              go_wp2_with fail
              refine (rErr c s' p 10 _ (unhide HI).1).mono ?_
              rintro e5 w5 ⟨rfl, rfl⟩
              go_wp2_with fail
              refine (rEnd c s' p 10 _ (unhide HI).1).mono ?_
              rw [end_bad _ p 10 (by decide)]
              rintro e5 w5 ⟨rfl, m, rfl⟩
              go_wp2
              go_ret
              exact ⟨rfl, belowDrewN (unhide HI).2.2 m⟩
end Go.Proofs.YtpjepndeppckdaaDoor
