/- A reader in memory, and what each call of it takes. -/
import Derived.Test.YtpjepndeppckdaaWr
import Derived.Laws.BitsAllLaws
import Derived.Laws.DeepStrings4
import Derived.Deep.QuietTactic
import Derived.BigQuiet
import Derived.WalkSmall
namespace Go.Proofs.Ytpjepndeppckdaa
open Go.RowKit Go.Lib

/-- a reader at block a over the bytes s, so many taken, with that error -/
structure Rd (w : World) (a : Nat) (s : ByteArray) (p : Nat) (e : Int) : Prop where
  lt : a < w.heap.size
  le : p ≤ s.size
  max : s.size ≤ 140737488355328
  c0 : w.cell? ⟨a, 0, none⟩ = some (.string s)
  c1 : w.cell? ⟨a, 1, none⟩ = some (.int .i64 p)
  c2 : w.cell? ⟨a, 2, none⟩ = some (.int .i64 e)
  f1 : w.frozen? ⟨a, 1, none⟩ = false
  f2 : w.frozen? ⟨a, 2, none⟩ = false
/-- what a call leaves -/
def Rt (w w' : World) (a : Nat) (s : ByteArray) (p : Nat) (e : Int) : Prop := Rd w' a s p e ∧ Upd w w' a a
theorem Rd.same {w w' : World} {a : Nat} {s : ByteArray} {p : Nat} {e : Int} (h : Rd w a s p e) (hs : w.heap.size ≤ w'.heap.size) (hb : w'.heap[a]? = w.heap[a]?) : Rd w' a s p e where
  lt := by have := h.lt; omega
  le := h.le
  max := h.max
  c0 := by rw [World.cell?_of_block (w := w) (a := ⟨a, 0, none⟩) hb]; exact h.c0
  c1 := by rw [World.cell?_of_block (w := w) (a := ⟨a, 1, none⟩) hb]; exact h.c1
  c2 := by rw [World.cell?_of_block (w := w) (a := ⟨a, 2, none⟩) hb]; exact h.c2
  f1 := by rw [World.frozen?_of_block (w := w) (a := ⟨a, 1, none⟩) hb]; exact h.f1
  f2 := by rw [World.frozen?_of_block (w := w) (a := ⟨a, 2, none⟩) hb]; exact h.f2
theorem Rd.upd {w w' : World} {a a' r' : Nat} {s : ByteArray} {p : Nat} {e : Int} (h : Rd w a s p e) (u : Upd w w' a' r') (h1 : a ≠ a') (h2 : a ≠ r') : Rd w' a s p e :=
  h.same u.size (u.block a h.lt h1 h2)
theorem Rd.alloc {w : World} {a : Nat} {s : ByteArray} {p : Nat} {e : Int} (h : Rd w a s p e) (o : Obj) : Rd (w.alloc o) a s p e := h.same (by simp) (Below.heap_alloc w o a h.lt)
theorem Rd.drewN {w : World} {a : Nat} {s : ByteArray} {p : Nat} {e : Int} (h : Rd w a s p e) (n : Nat) : Rd (w.drewN n) a s p e := ⟨h.lt, h.le, h.max, h.c0, h.c1, h.c2, h.f1, h.f2⟩
theorem Rd.setErr {w : World} {a : Nat} {s : ByteArray} {p : Nat} {e : Int} (h : Rd w a s p e) (e' : Int) : Rd (w.setCell ⟨a, 2, none⟩ (.int .i64 e')) a s p e' where
  lt := by simpa using h.lt
  le := h.le
  max := h.max
  c0 := by rw [World.cell?_setCell_other _ _ _ _ (by simp)]; exact h.c0
  c1 := by rw [World.cell?_setCell_other _ _ _ _ (by simp)]; exact h.c1
  c2 := World.cell?_setCell_same _ _ _ h.c2
  f1 := by simpa using h.f1
  f2 := by simpa using h.f2
theorem Rd.setAt {w : World} {a : Nat} {s : ByteArray} {p : Nat} {e : Int} (h : Rd w a s p e) (p' : Nat) (hp : p' ≤ s.size) : Rd (w.setCell ⟨a, 1, none⟩ (.int .i64 p')) a s p' e where
  lt := by simpa using h.lt
  le := hp
  max := h.max
  c0 := by rw [World.cell?_setCell_other _ _ _ _ (by simp)]; exact h.c0
  c1 := World.cell?_setCell_same _ _ _ h.c1
  c2 := by rw [World.cell?_setCell_other _ _ _ _ (by simp)]; exact h.c2
  f1 := by simpa using h.f1
  f2 := by simpa using h.f2
theorem Upd.setCell {w w' : World} {a r : Nat} (h : Upd w w' a r) (i : Nat) (v : Value) : Upd w (w'.setCell ⟨a, i, none⟩ v) a r :=
  ⟨h.os, h.tape, h.output, by simp; exact h.size, fun k hk h1 h2 => by rw [Below.heap_setCell w' ⟨a, i, none⟩ v k h1]; exact h.block k hk h1 h2⟩
theorem Upd.drewN {w w' : World} {a r : Nat} (h : Upd w w' a r) (n : Nat) : Upd w (w'.drewN n) a r := ⟨h.os, h.tape, h.output, h.size, h.block⟩
theorem Rt.refl {w : World} {a : Nat} {s : ByteArray} {p : Nat} {e : Int} (h : Rd w a s p e) : Rt w w a s p e := ⟨h, Upd.refl _ _ _⟩
theorem Rt.trans {w w1 w2 : World} {a : Nat} {s : ByteArray} {p p' : Nat} {e e' : Int} (h : Rt w w1 a s p e) (k : Rt w1 w2 a s p' e') : Rt w w2 a s p' e' := ⟨k.1, h.2.trans k.2 (.inl rfl)⟩

theorem rErr (a : Nat) (s : ByteArray) (p : Nat) (e : Int) (w : World) (h : Rd w a s p e) :
    Calls Try.prog 21 #[.pointer (some ⟨a, 0, none⟩)] w fun x w' => x = .returned (.int .i64 e) ∧ w' = w := by
  obtain ⟨h1, h2, h3, c0, c1, c2, f1, f2⟩ := h
  go_enter Try.func21, Try.ntmps21
  go_wp2
  go_ret
  exact ⟨rfl, rfl⟩
theorem rStopped (a : Nat) (s : ByteArray) (p : Nat) (e : Int) (w : World) (h : Rd w a s p e) :
    Calls Try.prog 37 #[.pointer (some ⟨a, 0, none⟩)] w fun x w' => x = .returned (.bool (e != 0)) ∧ w' = w := by
  have H := hide h
  clear h
  go_enter Try.func37, Try.ntmps37
  go_wp2_with fail
  refine (rErr a s p e _ (unhide H)).mono ?_
  rintro x w1 ⟨rfl, rfl⟩
  go_wp2
  go_ret
  exact ⟨rfl, rfl⟩
theorem rStop0 (a : Nat) (s : ByteArray) (p : Nat) (w : World) (h : Rd w a s p 0) :
    Calls Try.prog 37 #[.pointer (some ⟨a, 0, none⟩)] w fun x w' => x = .returned (.bool false) ∧ w' = w := rStopped a s p 0 w h
theorem rStop1 (a : Nat) (s : ByteArray) (p : Nat) (e : Int) (w : World) (h : Rd w a s p e) (he : e ≠ 0) :
    Calls Try.prog 37 #[.pointer (some ⟨a, 0, none⟩)] w fun x w' => x = .returned (.bool true) ∧ w' = w := by
  have := rStopped a s p e w h
  rw [bne_iff_ne.2 he] at this
  exact this
theorem rAt (a : Nat) (s : ByteArray) (p : Nat) (e : Int) (w : World) (h : Rd w a s p e) :
    Calls Try.prog 19 #[.pointer (some ⟨a, 0, none⟩)] w fun x w' => x = .returned (.int .i64 p) ∧ w' = w := by
  obtain ⟨h1, h2, h3, c0, c1, c2, f1, f2⟩ := h
  go_enter Try.func19, Try.ntmps19
  go_wp2
  go_ret
  exact ⟨rfl, rfl⟩
theorem rLeft (a : Nat) (s : ByteArray) (p : Nat) (e : Int) (w : World) (h : Rd w a s p e) :
    Calls Try.prog 20 #[.pointer (some ⟨a, 0, none⟩)] w fun x w' => x = .returned (.int .i64 ((s.size : Int) - p)) ∧ ∃ n, w' = w.drewN n := by
  obtain ⟨h1, h2, h3, c0, c1, c2, f1, f2⟩ := h
  go_enter Try.func20, Try.ntmps20
  go_wp2
  go_quiet (fail)
  go_wp2
  go_ret
  exact ⟨rfl, _, rfl⟩
/-- what End says -/
def endE (n p : Nat) (e : Int) : Int := if e = 0 then (if p < n then 12 else 0) else e
theorem rEnd (a : Nat) (s : ByteArray) (p : Nat) (e : Int) (w : World) (h : Rd w a s p e) :
    Calls Try.prog 22 #[.pointer (some ⟨a, 0, none⟩)] w fun x w' => x = .returned (.int .i64 (endE s.size p e)) ∧ ∃ n, w' = w.drewN n := by
  have H := hide h
  have hle := h.le
  have hmx := h.max
  clear h
  by_cases he : e = 0
  · subst he
    by_cases hp : p < s.size
    · have hr : endE s.size p 0 = 12 := by unfold endE; rw [if_pos rfl, if_pos hp]
      rw [hr]
      clear hr
      go_enter Try.func22, Try.ntmps22
      go_wp2_with fail
      refine (rStop0 a s p _ (unhide H)).mono ?_
      rintro x w1 ⟨rfl, rfl⟩
      go_wp2_with fail
      refine (rLeft a s p 0 _ (unhide H)).mono ?_
      rintro x w1 ⟨rfl, n, rfl⟩
      go_wp2
      go_ret
      exact ⟨rfl, _, rfl⟩
    · have hr : endE s.size p 0 = 0 := by unfold endE; rw [if_pos rfl, if_neg hp]
      rw [hr]
      clear hr
      go_enter Try.func22, Try.ntmps22
      go_wp2_with fail
      refine (rStop0 a s p _ (unhide H)).mono ?_
      rintro x w1 ⟨rfl, rfl⟩
      go_wp2_with fail
      refine (rLeft a s p 0 _ (unhide H)).mono ?_
      rintro x w1 ⟨rfl, n, rfl⟩
      go_wp2
      go_ret
      exact ⟨rfl, _, rfl⟩
  · have hr : endE s.size p e = e := by unfold endE; rw [if_neg he]
    rw [hr]
    clear hr
    have HE := hide he
    clear he
    go_enter Try.func22, Try.ntmps22
    go_wp2_with fail
    refine (rStop1 a s p e _ (unhide H) (unhide HE)).mono ?_
    rintro x w1 ⟨rfl, rfl⟩
    go_wp2_with fail
    refine (rErr a s p e _ (unhide H)).mono ?_
    rintro x w1 ⟨rfl, rfl⟩
    go_wp2
    go_ret
    exact ⟨rfl, 0, rfl⟩
theorem rFail1 (a : Nat) (s : ByteArray) (p : Nat) (e : Int) (x : Int) (w : World) (h : Rd w a s p e) (he : e ≠ 0) :
    Calls Try.prog 9 #[.pointer (some ⟨a, 0, none⟩), .int .i64 x] w fun x w' => x = .returned (.tuple #[]) ∧ w' = w := by
  have H := hide h
  clear h
  go_enter Try.func9, Try.ntmps9
  go_wp2_with fail
  refine (rStop1 a s p e _ (unhide H) he).mono ?_
  rintro x w1 ⟨rfl, rfl⟩
  go_wp2
  go_returns
  exact ⟨rfl, rfl⟩
theorem rFail0 (a : Nat) (s : ByteArray) (p : Nat) (x : Int) (w : World) (h : Rd w a s p 0) :
    Calls Try.prog 9 #[.pointer (some ⟨a, 0, none⟩), .int .i64 x] w fun y w' => y = .returned (.tuple #[]) ∧ Rt w w' a s p x := by
  have H := hide h
  obtain ⟨h1, h2, h3, c0, c1, c2, f1, f2⟩ := h
  clear c0 c1
  go_enter Try.func9, Try.ntmps9
  go_wp2_with fail
  refine (rStop0 a s p _ (unhide H)).mono ?_
  rintro y w1 ⟨rfl, rfl⟩
  go_wp2
  go_returns
  exact ⟨rfl, (unhide H).setErr x, (Upd.refl _ _ _).setCell _ _⟩
/-- what Fail makes of an error -/
def failE (e x : Int) : Int := if e = 0 then x else e
theorem rFail (a : Nat) (s : ByteArray) (p : Nat) (e x : Int) (w : World) (h : Rd w a s p e) :
    Calls Try.prog 9 #[.pointer (some ⟨a, 0, none⟩), .int .i64 x] w fun y w' => y = .returned (.tuple #[]) ∧ Rt w w' a s p (failE e x) := by
  by_cases he : e = 0
  · subst he
    exact rFail0 a s p x w h
  · refine (rFail1 a s p e x w h he).mono ?_
    rintro y w1 ⟨rfl, rfl⟩
    refine ⟨rfl, ?_⟩
    rw [failE, if_neg he]
    exact Rt.refl h
/-- what Raw takes -/
def rawS (s : ByteArray) (p : Nat) (e n : Int) : ByteArray × Nat × Int :=
  if e ≠ 0 then (⟨#[]⟩, p, e) else if n < 0 then (⟨#[]⟩, p, 1) else if (s.size : Int) - p < n then (⟨#[]⟩, p, 10) else (s.extract p (p + n.toNat), p + n.toNat, 0)
theorem rRaw (a : Nat) (s : ByteArray) (p : Nat) (e n : Int) (w : World) (h : Rd w a s p e) :
    Calls Try.prog 18 #[.pointer (some ⟨a, 0, none⟩), .int .i64 n] w fun y w' => y = .returned (.string (rawS s p e n).1) ∧ Rt w w' a s (rawS s p e n).2.1 (rawS s p e n).2.2 := by
  have H := hide h
  have hle := h.le
  have hmx := h.max
  by_cases he : e = 0
  · subst he
    by_cases hn : n < 0
    · have hr : rawS s p 0 n = (⟨#[]⟩, p, 1) := by unfold rawS; rw [if_neg (by simp), if_pos hn]
      rw [hr]
      clear hr h
      go_enter Try.func18, Try.ntmps18
      go_wp2_with fail
      refine (rStop0 a s p _ (unhide H)).mono ?_
      rintro x w1 ⟨rfl, rfl⟩
      go_wp2_with fail
      refine (rFail0 a s p 1 _ (unhide H)).mono ?_
      rintro x w1 ⟨rfl, hp⟩
      have HP := hide hp
      clear hp
      go_wp2
      go_ret
      exact ⟨rfl, unhide HP⟩
    · by_cases hl : (s.size : Int) - p < n
      · have hr : rawS s p 0 n = (⟨#[]⟩, p, 10) := by unfold rawS; rw [if_neg (by simp), if_neg hn, if_pos hl]
        rw [hr]
        clear hr h
        go_enter Try.func18, Try.ntmps18
        go_wp2_with fail
        refine (rStop0 a s p _ (unhide H)).mono ?_
        rintro x w1 ⟨rfl, rfl⟩
        go_wp2_with fail
        refine (rLeft a s p 0 _ (unhide H)).mono ?_
        rintro x w1 ⟨rfl, k, rfl⟩
        go_wp2_with fail
        refine (rFail0 a s p 10 _ ((unhide H).drewN k)).mono ?_
        rintro x w1 ⟨rfl, hp⟩
        have HP := hide hp
        clear hp
        go_wp2
        go_ret
        exact ⟨rfl, (unhide HP).1, ((Upd.refl _ _ _).drewN k).trans (unhide HP).2 (.inl rfl)⟩
      · obtain ⟨m, rfl⟩ := Int.eq_ofNat_of_zero_le (by omega : 0 ≤ n)
        have hr : rawS s p 0 m = (s.extract p (p + m), p + m, 0) := by unfold rawS; rw [if_neg (by simp), if_neg hn, if_neg hl]; rfl
        rw [hr]
        clear hr
        obtain ⟨h1, h2, h3, c0, c1, c2, f1, f2⟩ := h
        clear c2 f2
        have hpm : (p : Int) + m ≤ s.size := by omega
        go_enter Try.func18, Try.ntmps18
        go_wp2_with fail
        refine (rStop0 a s p _ (unhide H)).mono ?_
        rintro x w1 ⟨rfl, rfl⟩
        go_wp2_with fail
        refine (rLeft a s p 0 _ (unhide H)).mono ?_
        rintro x w1 ⟨rfl, k, rfl⟩
        go_wp2
        go_quiet (fail)
        go_wp2
        go_ret
        have h' := ((unhide H).drewN (k + nq)).setAt (p + m) (by omega)
        rw [Int.natCast_add] at h'
        exact ⟨rfl, h', ((Upd.refl _ _ _).drewN _).setCell _ _⟩
  · have hr : rawS s p e n = (⟨#[]⟩, p, e) := by unfold rawS; rw [if_pos he]
    rw [hr]
    clear hr h
    have HE := hide he
    clear he
    go_enter Try.func18, Try.ntmps18
    go_wp2_with fail
    refine (rStop1 a s p e _ (unhide H) (unhide HE)).mono ?_
    rintro x w1 ⟨rfl, rfl⟩
    go_wp2
    go_ret
    exact ⟨rfl, Rt.refl (unhide H)⟩
theorem rNew (s : ByteArray) (w : World) :
    Calls Try.prog 25 #[.string s] w fun e w' => e = .returned (.pointer (some ⟨w.heap.size, 0, none⟩)) ∧ w' = w.alloc (.cells #[.string s, .int .i64 0, .int .i64 0] 72) := by
  go_enter Try.func25, Try.ntmps25
  go_wp2
  go_ret
  exact ⟨rfl, rfl⟩
theorem Rd.new (s : ByteArray) (w : World) (t : TypeId) (hs : s.size ≤ 140737488355328) : Rd (w.alloc (.cells #[.string s, .int .i64 0, .int .i64 0] t)) w.heap.size s 0 0 where
  lt := by simp
  le := Nat.zero_le _
  max := hs
  c0 := by simp [go_sem]
  c1 := by simp [go_sem]
  c2 := by simp [go_sem]
  f1 := by rw [frozen?_alloc_cells]; simp [World.frozen?]
  f2 := by rw [frozen?_alloc_cells]; simp [World.frozen?]
end Go.Proofs.Ytpjepndeppckdaa
