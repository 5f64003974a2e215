/- Vectors: Take from a reader, Decode. -/
import Derived.Test.YtbahfpcfjhifbaaXm
namespace Go.Proofs.Ytbahfpcfjhifbaa
open Go.RowKit

theorem uintS_le (s : ByteArray) (p : Nat) (e : Int) (most : Nat) : (W.uintS s p e most).1 ≤ most := by
  unfold W.uintS
  split
  · exact Nat.zero_le _
  · split
    · exact Nat.zero_le _
    · split
      · exact Nat.zero_le _
      · simp only; omega
/-- dots out of bytes -/
def tkD (s : ByteArray) : Nat → Nat → Int → List (Nat × Nat) × Nat × Int
  | 0, p, e => ([], p, e)
  | n + 1, p, e => if e ≠ 0 then ([], p, e) else
    let x := W.uintS s p e 4294967295
    let y := W.uintS s x.2.1 x.2.2 1099511627776
    let z := tkD s n y.2.1 y.2.2
    ((x.1, y.1) :: z.1, z.2.1, z.2.2)
def tkV (s : ByteArray) (p : Nat) (e : Int) : List (Nat × Nat) × Nat × Int := tkD s (W.uintS s p e 64).1 (W.uintS s p e 64).2.1 (W.uintS s p e 64).2.2
theorem tkD_zero (s : ByteArray) (p : Nat) (e : Int) : tkD s 0 p e = ([], p, e) := rfl
theorem tkD_err (s : ByteArray) (n p : Nat) {e : Int} (h : e ≠ 0) : tkD s n p e = ([], p, e) := by
  cases n with
  | zero => rfl
  | succ n => rw [tkD, if_pos h]
theorem tkD_succ (s : ByteArray) (n p : Nat) : tkD s (n + 1) p 0 = (((W.uintS s p 0 4294967295).1, (W.uintS s (W.uintS s p 0 4294967295).2.1 (W.uintS s p 0 4294967295).2.2 1099511627776).1) :: (tkD s n (W.uintS s (W.uintS s p 0 4294967295).2.1 (W.uintS s p 0 4294967295).2.2 1099511627776).2.1 (W.uintS s (W.uintS s p 0 4294967295).2.1 (W.uintS s p 0 4294967295).2.2 1099511627776).2.2).1, (tkD s n (W.uintS s (W.uintS s p 0 4294967295).2.1 (W.uintS s p 0 4294967295).2.2 1099511627776).2.1 (W.uintS s (W.uintS s p 0 4294967295).2.1 (W.uintS s p 0 4294967295).2.2 1099511627776).2.2).2) := by
  rw [tkD, if_neg (by simp)]
theorem tkD_fits (s : ByteArray) (n p : Nat) (e : Int) : Fits (tkD s n p e).1 ∧ (tkD s n p e).1.length ≤ n := by
  induction n generalizing p e with
  | zero => exact ⟨fun d hd => (by cases hd), Nat.le_refl _⟩
  | succ n ih =>
    by_cases h : e = 0
    · subst h
      rw [tkD_succ]
      refine ⟨fun d hd => ?_, ?_⟩
      · rcases List.mem_cons.1 hd with rfl | hd
        · have h1 := uintS_le s p 0 4294967295
          have h2 := uintS_le s (W.uintS s p 0 4294967295).2.1 (W.uintS s p 0 4294967295).2.2 1099511627776
          exact ⟨by simp only; omega, by simp only; omega⟩
        · exact (ih _ _).1 d hd
      · have := (ih (W.uintS s (W.uintS s p 0 4294967295).2.1 (W.uintS s p 0 4294967295).2.2 1099511627776).2.1 (W.uintS s (W.uintS s p 0 4294967295).2.1 (W.uintS s p 0 4294967295).2.2 1099511627776).2.2).2
        simp only [List.length_cons]; omega
    · rw [tkD_err _ _ _ h]; exact ⟨fun d hd => (by cases hd), Nat.zero_le _⟩
theorem tkV_fits (s : ByteArray) (p : Nat) (e : Int) : Fits (tkV s p e).1 ∧ (tkV s p e).1.length ≤ 64 :=
  ⟨(tkD_fits s _ _ _).1, Nat.le_trans (tkD_fits s _ _ _).2 (uintS_le s p e 64)⟩
theorem OwnD.upd {w w' : World} {B a : Nat} {l : List (Nat × Nat)} {ao : Option Addr} {c : Nat} (h : OwnD w B l ao c) (hu : W.Upd w w' a a) (ha : a < B) : OwnD w' B l ao c :=
  own_keep h fun g hg => hu.block g (h.lt g hg).2 (by have := (h.lt g hg).1; omega) (by have := (h.lt g hg).1; omega)
theorem Rd.below {w w' : World} {a : Nat} {s : ByteArray} {p : Nat} {e : Int} (h : W.Rd w a s p e) (hb : Below w.heap.size w w') : W.Rd w' a s p e := h.same hb.size (hb.block a h.lt)
theorem Upd.belw {u w w' : World} {a : Nat} (h : W.Upd u w a a) (hb : Below w.heap.size w w') : W.Upd u w' a a := h.trans (⟨hb.os, hb.tape, hb.output, hb.size, fun k hk _ _ => hb.block k hk⟩ : W.Upd w w' a a) (.inl rfl)
/-- while dots are taken -/
structure Tk (u w : World) (N a : Nat) (s : ByteArray) (p : Nat) (e : Int) (l : List (Nat × Nat)) (ao : Option Addr) (c : Nat) : Prop where
  own : OwnD w N l ao c
  rd : W.Rd w a s p e
  upd : W.Upd u w a a
theorem Tk.step {u w w' : World} {N a : Nat} {s : ByteArray} {p p' : Nat} {e e' : Int} {l : List (Nat × Nat)} {ao : Option Addr} {c : Nat} (h : Tk u w N a s p e l ao c) (hr : W.Rt w w' a s p' e') (ha : a < N) : Tk u w' N a s p' e' l ao c :=
  ⟨h.own.upd hr.2 ha, hr.1, h.upd.trans hr.2 (.inl rfl)⟩
theorem Tk.belw {u w w' : World} {N a : Nat} {s : ByteArray} {p : Nat} {e : Int} {l : List (Nat × Nat)} {ao : Option Addr} {c : Nat} (h : Tk u w N a s p e l ao c) (hb : Below w.heap.size w w') : Tk u w' N a s p e l ao c :=
  ⟨h.own.below hb, Rd.below h.rd hb, Upd.belw h.upd hb⟩
theorem Tk.grow {u w w' : World} {N a : Nat} {s : ByteArray} {p : Nat} {e : Int} {l l' : List (Nat × Nat)} {ao ao' : Option Addr} {c c' : Nat} (h : Tk u w N a s p e l ao c) (hg : w.grownBy w' (Value.slice ao l.length c).ownBlock) (ho : OwnD w' N l' ao' c') (ha : a < N) (hN : N = u.heap.size) : Tk u w' N a s p e l' ao' c' := by
  have hz := h.upd.size
  have hb : Below N w w' := grown_below h.own hg (by rw [hN]; exact hz)
  exact ⟨ho, h.rd.same hb.size (hb.block a ha), ⟨hb.os.trans h.upd.os, hb.tape.trans h.upd.tape, hb.output.trans h.upd.output, Nat.le_trans h.upd.size hb.size, fun k hk h1 h2 => (hb.block k (by omega)).trans (h.upd.block k hk h1 h2)⟩⟩
set_option maxRecDepth 100000 in
set_option maxHeartbeats 4000000 in
theorem vTakeDots (a : Nat) (s : ByteArray) (p : Nat) (e : Int) (u : World) (h : W.Rd u a s p e) :
    Calls Try.prog 115 #[.pointer (some ⟨a, 0, none⟩)] u fun x u' => ∃ ao c, x = .returned (.slice ao (tkV s p e).1.length c) ∧ Tk u u' u.heap.size a s (tkV s p e).2.1 (tkV s p e).2.2 (tkV s p e).1 ao c := by
  have HU : Hid (∀ (w : World) (p : Nat) (e : Int) (most : Nat), W.Rd w a s p e → Calls Try.prog 88 #[.pointer (some ⟨a, 0, none⟩), .int .u64 (most : Int)] w fun y w' => y = .returned (.int .u64 ((W.uintS s p e most).1 : Int)) ∧ W.Rt w w' a s (W.uintS s p e most).2.1 (W.uintS s p e most).2.2) := fun w p e most h => W.rUint a s p e most w h
  have HE : Hid (∀ (w : World) (p : Nat) (e : Int), W.Rd w a s p e → Calls Try.prog 89 #[.pointer (some ⟨a, 0, none⟩)] w fun x w' => x = .returned (.int .i64 e) ∧ w' = w) := fun w p e h => W.rErr a s p e w h
  have HR := hide h
  have haN := h.lt
  have HV : Hid (tkV s p e = tkD s (W.uintS s p e 64).1 (W.uintS s p e 64).2.1 (W.uintS s p e 64).2.2) := rfl
  have HL := hide (uintS_le s p e 64)
  have HU0 : Hid (Calls Try.prog 88 #[.pointer (some ⟨a, 0, none⟩), .int .u64 64] u fun y w' => y = .returned (.int .u64 ((W.uintS s p e 64).1 : Int)) ∧ W.Rt u w' a s (W.uintS s p e 64).2.1 (W.uintS s p e 64).2.2) := unhide HU u p e 64 h
  obtain ⟨N, hN⟩ : ∃ N, N = u.heap.size := ⟨_, rfl⟩
  have HN := hide hN
  rw [← hN] at haN ⊢
  have HAN := hide haN
  clear hN h haN
  have HUA : Hid (∀ (w : World) (p : Nat) (e : Int), W.Rd w a s p e → Calls Try.prog 88 #[.pointer (some ⟨a, 0, none⟩), .int .u64 4294967295] w fun y w' => y = .returned (.int .u64 ((W.uintS s p e 4294967295).1 : Int)) ∧ W.Rt w w' a s (W.uintS s p e 4294967295).2.1 (W.uintS s p e 4294967295).2.2) := fun w p e h => unhide HU w p e 4294967295 h
  have HUB : Hid (∀ (w : World) (p : Nat) (e : Int), W.Rd w a s p e → Calls Try.prog 88 #[.pointer (some ⟨a, 0, none⟩), .int .u64 1099511627776] w fun y w' => y = .returned (.int .u64 ((W.uintS s p e 1099511627776).1 : Int)) ∧ W.Rt w w' a s (W.uintS s p e 1099511627776).2.1 (W.uintS s p e 1099511627776).2.2) := fun w p e h => unhide HU w p e 1099511627776 h
  generalize tkV s p e = T at *
  generalize W.uintS s p e 64 = x0 at *
  obtain ⟨n0, p0, e0⟩ := x0
  have HL : Hid (n0 ≤ 64) := HL
  have HV : Hid (T = tkD s n0 p0 e0) := HV
  have HU0 : Hid (Calls Try.prog 88 #[.pointer (some ⟨a, 0, none⟩), .int .u64 64] u fun y w' => y = .returned (.int .u64 (n0 : Int)) ∧ W.Rt u w' a s p0 e0) := HU0
  go_enter Try.func115, Try.ntmps115
  go_wp2_with (first
    | (go_at_call 88; refine (unhide HU0).mono ?_; rintro y w1 ⟨rfl, hr1⟩; have HT1 : Hid (Tk u w1 N a s p0 e0 [] none 0) := ⟨World.ownsRow_nil _ _ _ _, hr1.1, hr1.2⟩; clear hr1)
    | fail)
  go_loopw [3, 4] (fun s3 s4 wr => ∃ (acc : List (Nat × Nat)) (xo : Option Addr) (m n c p1 : Nat) (e1 : Int), s3 = .slice xo m c ∧ s4 = .int .u64 (n : Int) ∧ Hid (m = acc.length) ∧ Hid (acc.length + n ≤ 64) ∧ Hid (Tk u wr N a s p1 e1 acc xo c) ∧ Hid (T = (acc ++ (tkD s n p1 e1).1, (tkD s n p1 e1).2))) (fun _ s4 _ => (intOf s4).toNat)
  case atStart => exact ⟨[], none, 0, n0, 0, p0, e0, rfl, rfl, rfl, hide (by simp only [List.length_nil, Nat.zero_add]; exact unhide HL), unhide HT1, by rw [unhide HV]; exact rfl⟩
  case round =>
    clear HT1 HV HU0 HL
    obtain ⟨acc, xo, m, n, c, p1, e1, rfl, rfl, HMA, HLN, HI, HT⟩ := hrel
    have hni : (n : Int) ≤ 64 := by have := unhide HLN; omega
    cases n with
    | zero =>
      have HTE : Hid (T = (acc, p1, e1)) := by rw [unhide HT, tkD_zero, List.append_nil]; exact rfl
      go_wp2
      go_ret
      exact ⟨xo, c, by rw [unhide HTE]; show Ending.returned (.slice xo m c) = .returned (.slice xo acc.length c); rw [← unhide HMA], by rw [unhide HTE]; exact unhide HI⟩
    | succ n =>
      have HEE := hide (unhide HE wr p1 e1 (unhide HI).rd)
      obtain ⟨n1, hn1⟩ : ∃ n1, n1 = n + 1 := ⟨_, rfl⟩
      rw [← hn1] at hni HLN HT ⊢
      have hnp : (0 : Int) < (n1 : Int) := by omega
      by_cases he : e1 = 0
      · subst he
        have HTS := hide (tkD_succ s n p1)
        rw [← hn1] at HTS
        have HX1 := hide (unhide HUA wr p1 0 (unhide HI).rd)
        have hx1 := uintS_le s p1 0 4294967295
        generalize W.uintS s p1 0 4294967295 = x at *
        obtain ⟨xa, px, ex⟩ := x
        have hx1 : xa ≤ 4294967295 := hx1
        have HX1 : Hid (Calls Try.prog 88 #[.pointer (some ⟨a, 0, none⟩), .int .u64 4294967295] wr fun y w' => y = .returned (.int .u64 (xa : Int)) ∧ W.Rt wr w' a s px ex) := HX1
        have HX2 : Hid (∀ w : World, W.Rd w a s px ex → Calls Try.prog 88 #[.pointer (some ⟨a, 0, none⟩), .int .u64 1099511627776] w fun y w' => y = .returned (.int .u64 ((W.uintS s px ex 1099511627776).1 : Int)) ∧ W.Rt w w' a s (W.uintS s px ex 1099511627776).2.1 (W.uintS s px ex 1099511627776).2.2) := fun w h => unhide HUB w px ex h
        generalize hy : W.uintS s px ex 1099511627776 = y at *
        obtain ⟨yc, py, ey⟩ := y
        have HX2 : Hid (∀ w : World, W.Rd w a s px ex → Calls Try.prog 88 #[.pointer (some ⟨a, 0, none⟩), .int .u64 1099511627776] w fun y w' => y = .returned (.int .u64 (yc : Int)) ∧ W.Rt w w' a s py ey) := HX2
        have HTS : Hid (tkD s n1 p1 0 = ((xa, yc) :: (tkD s n py ey).1, (tkD s n py ey).2)) := by rw [unhide HTS]; simp only; exact trivial
        have HTE : Hid (T = (acc ++ [(xa, yc)] ++ (tkD s n py ey).1, (tkD s n py ey).2)) := by
          rw [unhide HT, unhide HTS, List.append_assoc]; exact rfl
        have hwx : IntKind.u32.wrap (xa : Int) = (xa : Int) := by rw [IntKind.wrap_u32]; omega
        have hsub : (n1 : Int) - 1 = (n : Int) := by omega
        have hsub2 : IntKind.u64.wrap ((n1 : Int) - 1) = (n : Int) := by rw [IntKind.wrap_u64]; omega
        have HN1 := hide hn1
        clear hy hn1 HT HTS hx1 hsub
        go_wp2_with (first
          | (go_at_call 89; refine (unhide HEE).mono ?_; rintro y w1 ⟨rfl, hw1⟩; obtain rfl := hw1.symm; clear hw1)
          | (go_at_call_of 88 (Value.int IntKind.u64 4294967295); refine (unhide HX1).mono ?_; rintro y w1 ⟨rfl, hr1⟩; have HT1 := hide ((unhide HI).step hr1 (unhide HAN)); clear hr1)
          | (go_at_call 88; refine (unhide HX2 _ (unhide HT1).rd).mono ?_; rintro y w2 ⟨rfl, hr2⟩; have HT2 := hide ((unhide HT1).step hr2 (unhide HAN)); clear hr2; have HT3 := hide ((unhide HT2).belw (w' := w2.alloc (.cells #[.int .u32 (xa : Int), .int .u64 (yc : Int)] 43)) ((Below.refl _ _).alloc (Nat.le_refl _) _)))
          | (at_builtin; refine wpList_putD (by rfl) (.tmp 22) (.tmp 27) (by rfl) (some 28) (by rfl) N acc [(xa, yc)] m 1 (unhide HMA) rfl xo (some ⟨w2.heap.size, 0, none⟩) c 1 (by rfl) (by rfl) (unhide HT3).own (Dv.one w2 (xa, yc) 43) (by have := unhide HLN; simp only [List.length_cons, List.length_nil]; omega) (by rw [unhide HN]; exact (unhide HT3).upd.size) ?_; intro ao4 n4 c4 X4 HN4 HO4 HG4 HB4 _; simp only [Act.put, List.setIfInBounds_toArray, List.set_cons_zero, List.set_cons_succ]; have HT4 := hide ((unhide HT3).grow (unhide HG4) (unhide HO4) (unhide HAN) (unhide HN)); clear HO4 HG4 HB4)
          | fail)
        go_roundw
        case rel => exact ⟨acc ++ [(xa, yc)], ao4, n4, n, c4, py, ey, rfl, rfl, unhide HN4, hide (by have h1 := unhide HLN; have h2 := unhide HN1; rw [List.length_append]; have h3 : [(xa, yc)].length = 1 := rfl; omega), unhide HT4, unhide HTE⟩
        case measure => have := unhide HN1; simp [intOf]; omega
      · have HTE : Hid (T = (acc, p1, e1)) := by rw [unhide HT, tkD_err _ _ _ he, List.append_nil]; exact rfl
        go_wp2_with (first
          | (go_at_call 89; refine (unhide HEE).mono ?_; rintro y w1 ⟨rfl, hw1⟩; obtain rfl := hw1.symm; clear hw1)
          | fail)
        go_ret
        exact ⟨xo, c, by rw [unhide HTE]; show Ending.returned (.slice xo m c) = .returned (.slice xo acc.length c); rw [← unhide HMA], by rw [unhide HTE]; exact unhide HI⟩
end Go.Proofs.Ytbahfpcfjhifbaa
