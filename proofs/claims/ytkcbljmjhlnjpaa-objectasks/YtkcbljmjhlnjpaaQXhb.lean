/- Vectors, the document's side: Take. -/
import Derived.Test.YtkcbljmjhlnjpaaQXha
import Derived.Test.YtkcbljmjhlnjpaaQ06
import Derived.Test.YtkcbljmjhlnjpaaQ09
import Derived.Test.YtkcbljmjhlnjpaaQ13
namespace Go.Proofs.Ytkcbljmjhlnjpaa
open Go.RowKit

/-- dots out of bytes, as many as are told -/
def dtD (s : ByteArray) : Nat → Nat → Int → List (Nat × Nat) × Nat × Int
  | 0, p, e => ([], p, e)
  | n + 1, p, e =>
    let x := W.uintS s p e 4294967295
    let y := W.uintS s x.2.1 x.2.2 1099511627776
    let z := dtD s n y.2.1 y.2.2
    ((x.1, y.1) :: z.1, z.2.1, z.2.2)
theorem dtD_zero (s : ByteArray) (p : Nat) (e : Int) : dtD s 0 p e = ([], p, e) := rfl
theorem dtD_succ (s : ByteArray) (n p : Nat) (e : Int) : dtD s (n + 1) p e = (((W.uintS s p e 4294967295).1, (W.uintS s (W.uintS s p e 4294967295).2.1 (W.uintS s p e 4294967295).2.2 1099511627776).1) :: (dtD s n (W.uintS s (W.uintS s p e 4294967295).2.1 (W.uintS s p e 4294967295).2.2 1099511627776).2.1 (W.uintS s (W.uintS s p e 4294967295).2.1 (W.uintS s p e 4294967295).2.2 1099511627776).2.2).1, (dtD s n (W.uintS s (W.uintS s p e 4294967295).2.1 (W.uintS s p e 4294967295).2.2 1099511627776).2.1 (W.uintS s (W.uintS s p e 4294967295).2.1 (W.uintS s p e 4294967295).2.2 1099511627776).2.2).2) := rfl
theorem dtD_err (s : ByteArray) (n p : Nat) {e : Int} (h : e ≠ 0) : (dtD s n p e).2 = (p, e) := by
  induction n with
  | zero => rfl
  | succ n ih => rw [dtD_succ, uintS_err s p _ h]; simp only; rw [uintS_err s p _ h]; exact ih
theorem dtD_tk (s : ByteArray) (n p : Nat) (e : Int) : (dtD s n p e).2 = (tkD s n p e).2 ∧ ((dtD s n p e).2.2 = 0 → (dtD s n p e).1 = (tkD s n p e).1) := by
  induction n generalizing p e with
  | zero => exact ⟨rfl, fun _ => rfl⟩
  | succ n ih =>
    by_cases h : e = 0
    · subst h
      rw [tkD_succ, dtD_succ]
      have := ih (W.uintS s (W.uintS s p 0 4294967295).2.1 (W.uintS s p 0 4294967295).2.2 1099511627776).2.1 (W.uintS s (W.uintS s p 0 4294967295).2.1 (W.uintS s p 0 4294967295).2.2 1099511627776).2.2
      exact ⟨this.1, fun h0 => by simp only; rw [this.2 h0]⟩
    · rw [tkD_err _ _ _ h, dtD_err _ _ _ h]
      exact ⟨rfl, fun h0 => absurd h0 h⟩
theorem dtD_fits (s : ByteArray) (n p : Nat) (e : Int) : Fits (dtD s n p e).1 ∧ (dtD s n p e).1.length = n := by
  induction n generalizing p e with
  | zero => exact ⟨fun d hd => (by cases hd), rfl⟩
  | succ n ih =>
    rw [dtD_succ]
    refine ⟨fun d hd => ?_, ?_⟩
    · rcases List.mem_cons.1 hd with rfl | hd
      · have h1 := uintS_le s p e 4294967295
        have h2 := uintS_le s (W.uintS s p e 4294967295).2.1 (W.uintS s p e 4294967295).2.2 1099511627776
        exact ⟨by simp only; omega, by simp only; omega⟩
      · exact (ih _ _).1 d hd
    · simp only [List.length_cons]; rw [(ih _ _).2]
def dtV (s : ByteArray) (p : Nat) (e : Int) : List (Nat × Nat) × Nat × Int := dtD s (W.uintS s p e 64).1 (W.uintS s p e 64).2.1 (W.uintS s p e 64).2.2
theorem dtV_fits (s : ByteArray) (p : Nat) (e : Int) : Fits (dtV s p e).1 ∧ (dtV s p e).1.length ≤ 64 :=
  ⟨(dtD_fits s _ _ _).1, by have := (dtD_fits s (W.uintS s p e 64).1 (W.uintS s p e 64).2.1 (W.uintS s p e 64).2.2).2; have := uintS_le s p e 64; unfold dtV; omega⟩
theorem take_doc (s : ByteArray) (p : Nat) (e : Int) {l : List (Nat × Nat)} {q : Nat} {f : Int} (h : dtV s p e = (l, q, f)) :
    (tkV s p e).2.1 = q ∧ (f = 0 → V.okB l = true → takeE s p e = 0 ∧ takeL s p e = l) ∧ (f = 0 → V.okB l = false → takeE s p e = 100 ∧ takeL s p e = []) ∧ (f ≠ 0 → takeE s p e = f ∧ takeL s p e = []) := by
  have h1 := dtD_tk s (W.uintS s p e 64).1 (W.uintS s p e 64).2.1 (W.uintS s p e 64).2.2
  have h2 : (dtV s p e).2 = (tkV s p e).2 ∧ ((dtV s p e).2.2 = 0 → (dtV s p e).1 = (tkV s p e).1) := h1
  rw [h] at h2
  obtain ⟨h3, h4⟩ := h2
  simp only at h3 h4
  have e1 : (tkV s p e).2.1 = q := by rw [← h3]
  have e2 : (tkV s p e).2.2 = f := by rw [← h3]
  refine ⟨e1, fun hf hok => ?_, fun hf hok => ?_, fun hf => ?_⟩
  · have hl := h4 hf
    have hE : takeE s p e = 0 := by unfold takeE; rw [← hl, hok, e2]; simpa using hf
    exact ⟨hE, by unfold takeL; rw [if_pos hE]; exact hl.symm⟩
  · have hl := h4 hf
    have hE : takeE s p e = 100 := by unfold takeE; rw [← hl, hok, e2, hf]; rfl
    exact ⟨hE, by unfold takeL; rw [if_neg (by rw [hE]; decide)]⟩
  · have hE : takeE s p e = f := by
      unfold takeE; rw [e2]; split
      · rfl
      · unfold W.failE; rw [if_neg hf]
    exact ⟨hE, by unfold takeL; rw [if_neg (by rw [hE]; exact hf)]⟩
set_option maxRecDepth 100000 in
set_option maxHeartbeats 4000000 in
theorem rTake (a : Nat) (s : ByteArray) (p : Nat) (e : Int) (u : World) (h : W.Rd u a s p e) :
    Calls Try.prog 112 #[.pointer (some ⟨a, 0, none⟩)] u fun x u' => ∃ ao c, x = .returned (.slice ao (takeL s p e).length c) ∧ Tk u u' u.heap.size a s (tkV s p e).2.1 (takeE s p e) (takeL s p e) ao c := by
  have HU : Hid (∀ (w : World) (p : Nat) (e : Int) (most : Nat), W.Rd w a s p e → Calls Try.prog 113 #[.pointer (some ⟨a, 0, none⟩), .int .u64 (most : Int)] w fun y w' => y = .returned (.int .u64 ((W.uintS s p e most).1 : Int)) ∧ W.Rt w w' a s (W.uintS s p e most).2.1 (W.uintS s p e most).2.2) := fun w p e most h => W.mUint a s p e most w h
  have HFL : Hid (∀ (w : World) (p : Nat), W.Rd w a s p 0 → Calls Try.prog 142 #[.pointer (some ⟨a, 0, none⟩), .int .i64 100] w fun y w' => y = .returned (.tuple #[]) ∧ W.Rt w w' a s p 100) := fun w p h => W.mFail a s p 0 100 w h
  have HR := hide h
  have haN := h.lt
  have HV : Hid (dtV s p e = dtD s (W.uintS s p e 64).1 (W.uintS s p e 64).2.1 (W.uintS s p e 64).2.2) := rfl
  have HL := hide (uintS_le s p e 64)
  have HU0 : Hid (Calls Try.prog 113 #[.pointer (some ⟨a, 0, none⟩), .int .u64 64] u fun y w' => y = .returned (.int .u64 ((W.uintS s p e 64).1 : Int)) ∧ W.Rt u w' a s (W.uintS s p e 64).2.1 (W.uintS s p e 64).2.2) := unhide HU u p e 64 h
  obtain ⟨N, hN⟩ : ∃ N, N = u.heap.size := ⟨_, rfl⟩
  have HN := hide hN
  rw [← hN] at haN ⊢
  have HAN := hide haN
  clear hN h haN
  have HUA : Hid (∀ (w : World) (p : Nat) (e : Int), W.Rd w a s p e → Calls Try.prog 113 #[.pointer (some ⟨a, 0, none⟩), .int .u64 4294967295] w fun y w' => y = .returned (.int .u64 ((W.uintS s p e 4294967295).1 : Int)) ∧ W.Rt w w' a s (W.uintS s p e 4294967295).2.1 (W.uintS s p e 4294967295).2.2) := fun w p e h => unhide HU w p e 4294967295 h
  have HUB : Hid (∀ (w : World) (p : Nat) (e : Int), W.Rd w a s p e → Calls Try.prog 113 #[.pointer (some ⟨a, 0, none⟩), .int .u64 1099511627776] w fun y w' => y = .returned (.int .u64 ((W.uintS s p e 1099511627776).1 : Int)) ∧ W.Rt w w' a s (W.uintS s p e 1099511627776).2.1 (W.uintS s p e 1099511627776).2.2) := fun w p e h => unhide HU w p e 1099511627776 h
  have HDF := hide (dtV_fits s p e)
  obtain ⟨l, q, f, hlq⟩ : ∃ l q f, dtV s p e = (l, q, f) := ⟨_, _, _, rfl⟩
  have HDOC := hide (take_doc s p e hlq)
  rw [hlq] at HV HDF
  clear hlq
  generalize takeE s p e = E at *
  generalize takeL s p e = L at *
  generalize (tkV s p e).2.1 = Q at *
  generalize W.uintS s p e 64 = x0 at *
  obtain ⟨n0, p0, e0⟩ := x0
  have HL : Hid (n0 ≤ 64) := HL
  have h64 : (n0 : Int) ≤ 64 := by have := unhide HL; omega
  have HV : Hid ((l, q, f) = dtD s n0 p0 e0) := HV
  have HDF : Hid (Fits l ∧ l.length ≤ 64) := HDF
  have HU0 : Hid (Calls Try.prog 113 #[.pointer (some ⟨a, 0, none⟩), .int .u64 64] u fun y w' => y = .returned (.int .u64 (n0 : Int)) ∧ W.Rt u w' a s p0 e0) := HU0
  go_enter Try.func112, Try.ntmps112
  go_wp2_with (first
    | (go_at_call 113; refine (unhide HU0).mono ?_; rintro y w1 ⟨rfl, hr1⟩; have HT1 : Hid (Tk u w1 N a s p0 e0 [] none 0) := ⟨World.ownsRow_nil _ _ _ _, hr1.1, hr1.2⟩; clear hr1)
    | fail)
  go_loopw [4, 5] (fun s4 s5 wr => ∃ (acc : List (Nat × Nat)) (xo : Option Addr) (m i k c p1 : Nat) (e1 : Int), s4 = .slice xo m c ∧ s5 = .int .u64 (i : Int) ∧ Hid (m = acc.length) ∧ Hid (acc.length = i) ∧ Hid (i + k = n0) ∧ Hid (Tk u wr N a s p1 e1 acc xo c) ∧ Hid ((l, q, f) = (acc ++ (dtD s k p1 e1).1, (dtD s k p1 e1).2))) (fun _ s5 _ => n0 - (intOf s5).toNat)
  case atStart => exact ⟨[], none, 0, 0, n0, 0, p0, e0, rfl, rfl, rfl, rfl, hide (Nat.zero_add _), unhide HT1, by rw [unhide HV]; exact rfl⟩
  case round =>
    clear HT1 HV HU0 HL
    obtain ⟨acc, xo, m, i, k, c, p1, e1, rfl, rfl, HMA, HAI, HIK, HI, HT⟩ := hrel
    cases k with
    | zero =>
      have HTE : Hid (l = acc ∧ q = p1 ∧ f = e1) := by
        have h := unhide HT
        rw [dtD_zero, List.append_nil] at h
        simp only [Prod.mk.injEq] at h
        exact h
      have hni : ¬ (i : Int) < (n0 : Int) := by have := unhide HIK; omega
      obtain ⟨hl, rfl, rfl⟩ := unhide HTE
      obtain rfl := hl
      clear HT HTE
      obtain ⟨hQ, hD1, hD2, hD3⟩ := unhide HDOC
      obtain rfl := hQ
      have c2 := (unhide HI).rd.c2
      by_cases hf : f = 0
      · subst hf
        have HV : Hid (∀ (w : World), Tk u w N a s Q 0 l xo c → Calls Try.prog 91 #[.slice xo m c] w fun e u' => e = .returned (.bool (V.okB l)) ∧ ∃ z, u' = w.drewN z) := fun w ht => by rw [unhide HMA]; exact rValid l xo c w ⟨ht.own.dv.lies, (unhide HDF).1, len_small (Nat.le_trans (unhide HDF).2 (by decide))⟩
        have HIZ : Hid (∀ z, Tk u (wr.drewN z) N a s Q 0 l xo c) := fun z => (unhide HI).belw (belowDrewN (Below.refl _ _) z)
        cases hok : V.okB l with
        | true =>
          obtain ⟨rfl, hL⟩ := hD1 rfl hok
          have HLL := hide hL
          rw [hok] at HV
          clear hD1 hD2 hD3 HDOC hL hok
          go_wp2_with (first
            | (go_at_call 91; refine (unhide HV _ (unhide HI)).mono ?_; rintro e w2 ⟨rfl, z, hz⟩; have HT2 := unhide HIZ z; rw [← hz] at HT2; replace HT2 := hide HT2; clear hz; have c2' := (unhide HT2).rd.c2)
            | fail)
          go_ret
          exact ⟨xo, c, by rw [unhide HLL, ← unhide HMA]; rfl, by rw [unhide HLL]; exact unhide HT2⟩
        | false =>
          obtain ⟨rfl, rfl⟩ := hD2 rfl hok
          rw [hok] at HV
          clear hD1 hD2 hD3 HDOC hok
          go_wp2_with (first
            | (go_at_call 91; refine (unhide HV _ (unhide HI)).mono ?_; rintro e w2 ⟨rfl, z, hz⟩; have HT2 := unhide HIZ z; rw [← hz] at HT2; replace HT2 := hide HT2; clear hz)
            | (go_at_call 142; refine (unhide HFL _ _ (unhide HT2).rd).mono ?_; rintro y w3 ⟨rfl, hr3⟩; have HT3 := hide ((unhide HT2).step hr3 (unhide HAN)); clear hr3; have c3 := (unhide HT3).rd.c2)
            | fail)
          go_ret
          exact ⟨none, 0, rfl, (unhide HT3).none⟩
      · obtain ⟨rfl, rfl⟩ := hD3 hf
        have hb : (E == 0) = false := by rw [beq_eq_false_iff_ne]; exact hf
        clear hD1 hD2 hD3 HDOC
        go_wp2
        go_ret
        exact ⟨none, 0, rfl, (unhide HI).none⟩
    | succ k =>
      have hni : (i : Int) < (n0 : Int) := by have := unhide HIK; omega
      have hadd : IntKind.u64.wrap ((i : Int) + 1) = ((i + 1 : Nat) : Int) := by rw [IntKind.wrap_u64]; omega
      have HTS := hide (dtD_succ s k p1 e1)
      have HX1 := hide (unhide HUA wr p1 e1 (unhide HI).rd)
      have hx1 := uintS_le s p1 e1 4294967295
      generalize W.uintS s p1 e1 4294967295 = x at *
      obtain ⟨xa, px, ex⟩ := x
      have hx1 : xa ≤ 4294967295 := hx1
      have HX1 : Hid (Calls Try.prog 113 #[.pointer (some ⟨a, 0, none⟩), .int .u64 4294967295] wr fun y w' => y = .returned (.int .u64 (xa : Int)) ∧ W.Rt wr w' a s px ex) := HX1
      have HX2 : Hid (∀ w : World, W.Rd w a s px ex → Calls Try.prog 113 #[.pointer (some ⟨a, 0, none⟩), .int .u64 1099511627776] w fun y w' => y = .returned (.int .u64 ((W.uintS s px ex 1099511627776).1 : Int)) ∧ W.Rt w w' a s (W.uintS s px ex 1099511627776).2.1 (W.uintS s px ex 1099511627776).2.2) := fun w h => unhide HUB w px ex h
      generalize hy : W.uintS s px ex 1099511627776 = y at *
      obtain ⟨yc, py, ey⟩ := y
      have HX2 : Hid (∀ w : World, W.Rd w a s px ex → Calls Try.prog 113 #[.pointer (some ⟨a, 0, none⟩), .int .u64 1099511627776] w fun y w' => y = .returned (.int .u64 (yc : Int)) ∧ W.Rt w w' a s py ey) := HX2
      have HTS : Hid (dtD s (k + 1) p1 e1 = ((xa, yc) :: (dtD s k py ey).1, (dtD s k py ey).2)) := by rw [unhide HTS]; simp only; exact trivial
      have HTE : Hid ((l, q, f) = (acc ++ [(xa, yc)] ++ (dtD s k py ey).1, (dtD s k py ey).2)) := by
        rw [unhide HT, unhide HTS, List.append_assoc]; exact rfl
      have hwx : IntKind.u32.wrap (xa : Int) = (xa : Int) := by rw [IntKind.wrap_u32]; omega
      clear hy HT HTS hx1 HDOC HDF
      go_wp2_with (first
        | (go_at_call_of 113 (Value.int IntKind.u64 4294967295); refine (unhide HX1).mono ?_; rintro y w1 ⟨rfl, hr1⟩; have HT1 := hide ((unhide HI).step hr1 (unhide HAN)); clear hr1)
        | (go_at_call 113; refine (unhide HX2 _ (unhide HT1).rd).mono ?_; rintro y w2 ⟨rfl, hr2⟩; have HT2 := hide ((unhide HT1).step hr2 (unhide HAN)); clear hr2; have HT3 := hide ((unhide HT2).belw (w' := w2.alloc (.cells #[.int .u32 (xa : Int), .int .u64 (yc : Int)] 53)) ((Below.refl _ _).alloc (Nat.le_refl _) _)))
        | (at_builtin; refine wpList_putD (by rfl) (.tmp 19) (.tmp 24) (by rfl) (some 25) (by rfl) N acc [(xa, yc)] m 1 (unhide HMA) rfl xo (some ⟨w2.heap.size, 0, none⟩) c 1 (by rfl) (by rfl) (unhide HT3).own (Dv.one w2 (xa, yc) 53) (by have := unhide HAI; have := unhide HIK; simp only [List.length_cons, List.length_nil]; omega) (by rw [unhide HN]; exact (unhide HT3).upd.size) ?_; intro ao4 n4 c4 X4 HN4 HO4 HG4 HB4 _; simp only [Act.put, List.setIfInBounds_toArray, List.set_cons_zero, List.set_cons_succ]; have HT4 := hide ((unhide HT3).grow (unhide HG4) (unhide HO4) (unhide HAN) (unhide HN)); clear HO4 HG4 HB4)
        | fail)
      go_roundw
      case rel => exact ⟨acc ++ [(xa, yc)], ao4, n4, i + 1, k, c4, py, ey, rfl, rfl, unhide HN4, hide (by have h1 := unhide HAI; rw [List.length_append]; have h3 : [(xa, yc)].length = 1 := rfl; omega), hide (by have := unhide HIK; omega), unhide HT4, unhide HTE⟩
      case measure => have := unhide HIK; simp [intOf]; omega
end Go.Proofs.Ytkcbljmjhlnjpaa
