/- Taking an item of a kind, and putting what was taken. -/
import Derived.Test.YtpjepndeppckdaaDoorInv
import Derived.Test.YtpjepndeppckdaaDoorWorks
import Derived.Test.YtpjepndeppckdaaDoorItems
import Derived.Deep.RegionWith
namespace Go.Proofs.YtpjepndeppckdaaDoor
open Go.RowKit Go.Lib

/-- an item as a value -/
def It.val (x : It) : Value := .agg #[.int .i64 x.who, .int .i64 x.kind, .int .i64 x.n, .int .u64 x.v, .string x.s]
/-- what is left behind -/
def Ag (w w' : World) (a b B : Nat) (s : ByteArray) (p : Nat) (bs : List UInt8) : Prop :=
  ∃ r' bs' p' e', Rd w' a s p' e' ∧ Wr w' b r' bs' ∧ a ≠ r' ∧ B ≤ r' ∧ Below B w w' ∧ (e' = 0 → bs' = bs ++ (s.data.toList.drop p).take (p' - p) ∧ p ≤ p') ∧ (e' ≠ 0 → p' = p)
theorem ag_close {w w1 w2 : World} {o : Obj} {a b r r' B p p' : Nat} {s : ByteArray} {e' : Int} {bs bs' : List UInt8} (hab : a ≠ b) (har : a ≠ r) (hB : B ≤ w.heap.size) (hBa : B ≤ a) (hBb : B ≤ b) (hBr : B ≤ r)
    (h1 : Rt (w.alloc o) w1 a s p' e') (h2 : Put w1 w2 b r r' bs') (hok : e' = 0 → bs' = bs ++ (s.data.toList.drop p).take (p' - p) ∧ p ≤ p') (her : e' ≠ 0 → p' = p) : Ag w w2 a b B s p bs := by
  have hs1 := h1.2.size
  simp only [World.size_alloc] at hs1
  have hlt := h1.1.lt
  refine ⟨r', bs', p', e', h1.1.upd h2.2.2 hab har, h2.1, ?_, ?_, ?_, hok, her⟩
  · rcases h2.2.1 with e | e
    · rw [e]; exact har
    · omega
  · rcases h2.2.1 with e | e
    · rw [e]; exact hBr
    · omega
  · exact (((Below.refl _ _).alloc hB _).trans (h1.below (by simp; omega) hBa)).trans (h2.below (by omega) hBb hBr)
theorem Rd.drew {w : World} {a : Nat} {s : ByteArray} {p : Nat} {e : Int} (h : Rd w a s p e) : Rd w.drew a s p e := ⟨h.lt, h.le, h.max, h.c0, h.c1, h.c2, h.f1, h.f2⟩
theorem Rt.ofDrew {w w1 : World} {a : Nat} {s : ByteArray} {p : Nat} {e : Int} (h : Rt w.drew w1 a s p e) : Rt w w1 a s p e := ⟨h.1, h.2.os, h.2.tape, h.2.output, h.2.size, h.2.block⟩
theorem wrap16_rng (x : Int) : -32768 ≤ IntKind.i16.wrap x ∧ IntKind.i16.wrap x < 32768 := by
  simp only [IntKind.wrap, IntKind.bits, IntKind.signed]
  simp
  omega
set_option maxRecDepth 100000 in
set_option maxHeartbeats 2000000 in
theorem again_walk (x : It) (hx : x.Ok) (a b r B p : Nat) (s : ByteArray) (bs : List UInt8) (w : World) (hr : Rd w a s p 0) (hw : Wr w b r bs) (hab : a ≠ b) (har : a ≠ r) (hB : B ≤ w.heap.size) (hBa : B ≤ a) (hBb : B ≤ b) (hBr : B ≤ r)
    (hl : bs.length ≤ p) (hsz : s.size ≤ 140737488351232) :
    Calls Tryd.prog 28 #[.pointer (some ⟨a, 0, none⟩), .pointer (some ⟨b, 0, none⟩), x.val] w fun e w' => e = .returned (.tuple #[]) ∧ Ag w w' a b B s p bs := by
  obtain ⟨who, kind, n, v, t⟩ := x
  obtain ⟨-, -, hn, hv⟩ := hx
  simp only at hn hv
  unfold It.val
  simp only
  have HR := hide (hr.alloc (.cells #[.int .i64 who, .int .i64 kind, .int .i64 n, .int .u64 v, .string t] 35))
  have HW := hide (hw.alloc (.cells #[.int .i64 who, .int .i64 kind, .int .i64 n, .int .u64 v, .string t] 35))
  have HU : Hid (∀ {w1 : World} {p' : Nat} {e' : Int}, Rt (w.alloc (.cells #[.int .i64 who, .int .i64 kind, .int .i64 n, .int .u64 v, .string t] 35)) w1 a s p' e' → Wr w1 b r bs) := fun h => (unhide HW).upd h.2 (Ne.symm hab) (Ne.symm hab) (Ne.symm har) (Ne.symm har)
  have hlt := hr.lt
  have hle := hr.le
  clear hr hw
  by_cases k0 : kind = 0
  · subst k0
    go_enter Tryd.func28, Tryd.ntmps28
    go_wp2_with fail
    refine (rByte a s p 0 _ (unhide HR)).mono ?_
    rintro e w1 ⟨rfl, hp⟩
    have H1 := hide hp
    clear hp
    go_wp2_with fail
    refine (wByte b r bs _ _ (unhide HU (unhide H1)) (by omega) (by omega) (by omega)).mono ?_
    rintro e w2 ⟨rfl, r2, hp⟩
    have H2 := hide hp
    clear hp
    go_wp2
    go_returns
    exact ⟨rfl, ag_close hab har hB hBa hBb hBr (unhide H1) (unhide H2) (ag_byte s p bs) (fix_err s p 0 1)⟩
  · by_cases k1 : kind = 1
    · subst k1
      go_enter Tryd.func28, Tryd.ntmps28
      go_wp2_with fail
      refine (rSmall a s p 0 _ (unhide HR)).mono ?_
      rintro e w1 ⟨rfl, hp⟩
      have H1 := hide hp
      clear hp
      go_wp2_with fail
      refine (wSmall b r bs _ _ (unhide HU (unhide H1)) (wrap16_rng _).1 (wrap16_rng _).2 (by omega)).mono ?_
      rintro e w2 ⟨rfl, r2, hp⟩
      have H2 := hide hp
      clear hp
      go_wp2
      go_returns
      exact ⟨rfl, ag_close hab har hB hBa hBb hBr (unhide H1) (unhide H2) (ag_small s p bs) (fix_err s p 0 2)⟩
    · by_cases k2 : kind = 2
      · subst k2
        by_cases hbad : n < 1 ∨ 8 < n
        · have HBad := hide hbad
          clear hbad
          have HF := hide (fun u : World => wFixedBad b (fixS s p 0 n).1 n u (unhide HBad))
          have HRF := hide (rFixed a s p 0 n _ (unhide HR).drew)
          have HCB : Hid (∀ w1, Rt (w.alloc (.cells #[.int .i64 who, .int .i64 2, .int .i64 n, .int .u64 v, .string t] 35)).drew w1 a s (fixS s p 0 n).2.1 (fixS s p 0 n).2.2 → w1.cell? ⟨w.heap.size, 2, none⟩ = some (.int .i64 n)) := fun w1 h => by
            rw [h.2.cell (p := ⟨w.heap.size, 2, none⟩) (by simp) (by have := hlt; show w.heap.size ≠ a; omega) (by have := hlt; show w.heap.size ≠ a; omega)]
            simp [go_sem]
          go_enter Tryd.func28, Tryd.ntmps28
          go_wp2_with fail
          go_region_with (first | (go_at_call 48; refine (unhide HRF).mono ?_; rintro e w1 ⟨rfl, hp⟩; have hcb := unhide HCB w1 hp; have H1 := hide hp; clear hp) | (go_at_call 32; refine ((unhide HF) _).mono ?_; rintro e w2 ⟨rfl, he⟩; subst he))
          all_goals
            go_wp2
            go_returns
            exact ⟨rfl, ag_close hab har hB hBa hBb hBr (Rt.ofDrew (unhide H1)) (Put.refl (unhide HU (Rt.ofDrew (unhide H1)))) (fun he => absurd (fix_ok s p n he).1 (by rcases unhide HBad with h | h <;> have := (fix_ok s p n he).2.1 <;> omega)) (fix_err s p 0 n)⟩
        · have hn1 : 1 ≤ n := by omega
          have hn8 : n ≤ 8 := by omega
          clear hbad
          have HF := hide (fun (u : World) (h : Wr u b r bs) => wFixed b r bs (fixS s p 0 n).1 n u h hn1 hn8 (fix_lt s p 0 n hn1 hn8) (by omega))
          have HRF := hide (rFixed a s p 0 n _ (unhide HR).drew)
          have HCB : Hid (∀ w1, Rt (w.alloc (.cells #[.int .i64 who, .int .i64 2, .int .i64 n, .int .u64 v, .string t] 35)).drew w1 a s (fixS s p 0 n).2.1 (fixS s p 0 n).2.2 → w1.cell? ⟨w.heap.size, 2, none⟩ = some (.int .i64 n)) := fun w1 h => by
            rw [h.2.cell (p := ⟨w.heap.size, 2, none⟩) (by simp) (by have := hlt; show w.heap.size ≠ a; omega) (by have := hlt; show w.heap.size ≠ a; omega)]
            simp [go_sem]
          go_enter Tryd.func28, Tryd.ntmps28
          go_wp2_with fail
          go_region_with (first | (go_at_call 48; refine (unhide HRF).mono ?_; rintro e w1 ⟨rfl, hp⟩; have hcb := unhide HCB w1 hp; have H1 := hide hp; clear hp) | (go_at_call 32; refine ((unhide HF) _ ?_).mono ?_; exact unhide HU (Rt.ofDrew (unhide H1)); rintro e w2 ⟨rfl, r2, hp⟩; have H2 := hide hp; clear hp))
          all_goals
            go_wp2
            go_returns
            exact ⟨rfl, ag_close hab har hB hBa hBb hBr (Rt.ofDrew (unhide H1)) (unhide H2) (ag_fixed s p n bs) (fix_err s p 0 n)⟩
      · by_cases k3 : kind = 3
        · subst k3
          go_enter Tryd.func28, Tryd.ntmps28
          go_wp2_with fail
          refine (rUint a s p 0 v _ (unhide HR)).mono ?_
          rintro e w1 ⟨rfl, hp⟩
          have H1 := hide hp
          clear hp
          go_wp2_with fail
          refine (wUintI b r bs _ _ (unhide HU (unhide H1)) (by omega) (by have := uintS_le s p 0 v; omega) (by omega)).mono ?_
          rintro e w2 ⟨rfl, r2, hp⟩
          have H2 := hide hp
          clear hp
          go_wp2
          go_returns
          exact ⟨rfl, ag_close hab har hB hBa hBb hBr (unhide H1) (unhide H2) (ag_uint s p v bs) (uint_err s p 0 v)⟩
        · by_cases k4 : kind = 4
          · subst k4
            go_enter Tryd.func28, Tryd.ntmps28
            go_wp2_with fail
            refine (rInt a s p 0 _ (unhide HR)).mono ?_
            rintro e w1 ⟨rfl, hp⟩
            have H1 := hide hp
            clear hp
            go_wp2_with fail
            refine (wInt b r bs _ _ (unhide HU (unhide H1)) (zag_rng _ (by have := uintS_le s p 0 18446744073709551615; omega)).1 (zag_rng _ (by have := uintS_le s p 0 18446744073709551615; omega)).2 (by omega)).mono ?_
            rintro e w2 ⟨rfl, r2, hp⟩
            have H2 := hide hp
            clear hp
            go_wp2
            go_returns
            exact ⟨rfl, ag_close hab har hB hBa hBb hBr (unhide H1) (unhide H2) (ag_int s p 18446744073709551615 bs) (uint_err s p 0 18446744073709551615)⟩
          · by_cases k5 : kind = 5
            · subst k5
              go_enter Tryd.func28, Tryd.ntmps28
              go_wp2_with fail
              refine (rFloat a s p 0 _ (unhide HR)).mono ?_
              rintro e w1 ⟨rfl, hp⟩
              have H1 := hide hp
              clear hp
              go_wp2_with fail
              refine (wFloat b r bs _ _ (unhide HU (unhide H1)) (by omega)).mono ?_
              rintro e w2 ⟨rfl, r2, hp⟩
              have H2 := hide hp
              clear hp
              go_wp2
              go_returns
              exact ⟨rfl, ag_close hab har hB hBa hBb hBr (unhide H1) (unhide H2) (ag_float s p bs) (flt_err s p 0)⟩
            · by_cases k6 : kind = 6
              · subst k6
                go_enter Tryd.func28, Tryd.ntmps28
                go_wp2_with fail
                refine (rText a s p 0 n _ (unhide HR) (by omega)).mono ?_
                rintro e w1 ⟨rfl, hp⟩
                have H1 := hide hp
                clear hp
                go_wp2_with fail
                refine (wText b r bs _ _ (unhide HU (unhide H1)) (by have := textS_len s p 0 n hle; omega)).mono ?_
                rintro e w2 ⟨rfl, r2, hp⟩
                have H2 := hide hp
                clear hp
                go_wp2
                go_returns
                exact ⟨rfl, ag_close hab har hB hBa hBb hBr (unhide H1) (unhide H2) (ag_text s p n bs) (text_err s p 0 n)⟩
              · by_cases k7 : kind = 7
                · subst k7
                  go_enter Tryd.func28, Tryd.ntmps28
                  go_wp2_with fail
                  refine (rRaw a s p 0 n _ (unhide HR)).mono ?_
                  rintro e w1 ⟨rfl, hp⟩
                  have H1 := hide hp
                  clear hp
                  go_wp2_with fail
                  refine (wRaw b r bs _ _ (unhide HU (unhide H1)) (by have := rawS_len s p 0 n hle; omega)).mono ?_
                  rintro e w2 ⟨rfl, r2, hp⟩
                  have H2 := hide hp
                  clear hp
                  go_wp2
                  go_returns
                  exact ⟨rfl, ag_close hab har hB hBa hBb hBr (unhide H1) (unhide H2) (ag_raw s p n bs) (rawS_err s p 0 n)⟩
                · have q0 : (kind == 0) = false := by rw [beq_eq_false_iff_ne]; exact k0
                  have q1 : (kind == 1) = false := by rw [beq_eq_false_iff_ne]; exact k1
                  have q2 : (kind == 2) = false := by rw [beq_eq_false_iff_ne]; exact k2
                  have q3 : (kind == 3) = false := by rw [beq_eq_false_iff_ne]; exact k3
                  have q4 : (kind == 4) = false := by rw [beq_eq_false_iff_ne]; exact k4
                  have q5 : (kind == 5) = false := by rw [beq_eq_false_iff_ne]; exact k5
                  have q6 : (kind == 6) = false := by rw [beq_eq_false_iff_ne]; exact k6
                  have q7 : (kind == 7) = false := by rw [beq_eq_false_iff_ne]; exact k7
                  clear k0 k1 k2 k3 k4 k5 k6 k7
                  go_enter Tryd.func28, Tryd.ntmps28
                  go_wp2
                  go_returns
                  exact ⟨rfl, ag_close hab har hB hBa hBb hBr (Rt.refl (unhide HR)) (Put.refl (unhide HW)) (fun _ => ⟨by simp, Nat.le_refl _⟩) (fun h => absurd rfl h)⟩
end Go.Proofs.YtpjepndeppckdaaDoor
