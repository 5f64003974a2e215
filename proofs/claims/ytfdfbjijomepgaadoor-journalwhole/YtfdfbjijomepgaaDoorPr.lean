/- The page: a reader (of the wire's texts). -/
import Derived.Test.YtfdfbjijomepgaaDoorPw
import Derived.Laws.BitsAllLaws
import Derived.Laws.DeepStrings4
import Derived.Deep.QuietTactic
import Derived.BigQuiet
import Derived.WalkSmall
namespace Go.Proofs.YtfdfbjijomepgaaDoor
open Go.RowKit Go.Lib
/-- a reader at block a over the bytes s, so many taken, with that error -/
structure Rd (w : World) (a : Nat) (s : ByteArray) (p : Nat) (e : Int) : Prop where
  lt : a < w.heap.size
  le : p ≤ s.size
  max : s.size ≤ 140737488355328
  c0 : w.cell? ⟨a, 0, none⟩ = some (.string s)
  c1 : w.cell? ⟨a, 1, none⟩ = some (.int .i64 p)
  c2 : w.cell? ⟨a, 2, none⟩ = some (.int .i64 e)
  f1 : w.frozen? ⟨a, 1, none⟩ = false
  f2 : w.frozen? ⟨a, 2, none⟩ = false
/-- what a call leaves -/
def Rt (w w' : World) (a : Nat) (s : ByteArray) (p : Nat) (e : Int) : Prop := Rd w' a s p e ∧ Upd w w' a a
theorem Rd.same {w w' : World} {a : Nat} {s : ByteArray} {p : Nat} {e : Int} (h : Rd w a s p e) (hs : w.heap.size ≤ w'.heap.size) (hb : w'.heap[a]? = w.heap[a]?) : Rd w' a s p e where
  lt := by have := h.lt; omega
  le := h.le
  max := h.max
  c0 := by rw [World.cell?_of_block (w := w) (a := ⟨a, 0, none⟩) hb]; exact h.c0
  c1 := by rw [World.cell?_of_block (w := w) (a := ⟨a, 1, none⟩) hb]; exact h.c1
  c2 := by rw [World.cell?_of_block (w := w) (a := ⟨a, 2, none⟩) hb]; exact h.c2
  f1 := by rw [World.frozen?_of_block (w := w) (a := ⟨a, 1, none⟩) hb]; exact h.f1
  f2 := by rw [World.frozen?_of_block (w := w) (a := ⟨a, 2, none⟩) hb]; exact h.f2
theorem Rd.upd {w w' : World} {a a' r' : Nat} {s : ByteArray} {p : Nat} {e : Int} (h : Rd w a s p e) (u : Upd w w' a' r') (h1 : a ≠ a') (h2 : a ≠ r') : Rd w' a s p e :=
  h.same u.size (u.block a h.lt h1 h2)
theorem Rd.alloc {w : World} {a : Nat} {s : ByteArray} {p : Nat} {e : Int} (h : Rd w a s p e) (o : Obj) : Rd (w.alloc o) a s p e := h.same (by simp) (Below.heap_alloc w o a h.lt)
theorem Rd.drewN {w : World} {a : Nat} {s : ByteArray} {p : Nat} {e : Int} (h : Rd w a s p e) (n : Nat) : Rd (w.drewN n) a s p e := ⟨h.lt, h.le, h.max, h.c0, h.c1, h.c2, h.f1, h.f2⟩
theorem Rd.setErr {w : World} {a : Nat} {s : ByteArray} {p : Nat} {e : Int} (h : Rd w a s p e) (e' : Int) : Rd (w.setCell ⟨a, 2, none⟩ (.int .i64 e')) a s p e' where
  lt := by simpa using h.lt
  le := h.le
  max := h.max
  c0 := by rw [World.cell?_setCell_other _ _ _ _ (by simp)]; exact h.c0
  c1 := by rw [World.cell?_setCell_other _ _ _ _ (by simp)]; exact h.c1
  c2 := World.cell?_setCell_same _ _ _ h.c2
  f1 := by simpa using h.f1
  f2 := by simpa using h.f2
theorem Rd.setAt {w : World} {a : Nat} {s : ByteArray} {p : Nat} {e : Int} (h : Rd w a s p e) (p' : Nat) (hp : p' ≤ s.size) : Rd (w.setCell ⟨a, 1, none⟩ (.int .i64 p')) a s p' e where
  lt := by simpa using h.lt
  le := hp
  max := h.max
  c0 := by rw [World.cell?_setCell_other _ _ _ _ (by simp)]; exact h.c0
  c1 := World.cell?_setCell_same _ _ _ h.c1
  c2 := by rw [World.cell?_setCell_other _ _ _ _ (by simp)]; exact h.c2
  f1 := by simpa using h.f1
  f2 := by simpa using h.f2
theorem Upd.setCell {w w' : World} {a r : Nat} (h : Upd w w' a r) (i : Nat) (v : Value) : Upd w (w'.setCell ⟨a, i, none⟩ v) a r :=
  ⟨h.os, h.tape, h.output, by simp; exact h.size, fun k hk h1 h2 => by rw [Below.heap_setCell w' ⟨a, i, none⟩ v k h1]; exact h.block k hk h1 h2⟩
theorem Upd.drewN {w w' : World} {a r : Nat} (h : Upd w w' a r) (n : Nat) : Upd w (w'.drewN n) a r := ⟨h.os, h.tape, h.output, h.size, h.block⟩
theorem Rt.refl {w : World} {a : Nat} {s : ByteArray} {p : Nat} {e : Int} (h : Rd w a s p e) : Rt w w a s p e := ⟨h, Upd.refl _ _ _⟩
theorem Rt.trans {w w1 w2 : World} {a : Nat} {s : ByteArray} {p p' : Nat} {e e' : Int} (h : Rt w w1 a s p e) (k : Rt w1 w2 a s p' e') : Rt w w2 a s p' e' := ⟨k.1, h.2.trans k.2 (.inl rfl)⟩

theorem rErr (a : Nat) (s : ByteArray) (p : Nat) (e : Int) (w : World) (h : Rd w a s p e) :
    Calls Tryd.prog 84 #[.pointer (some ⟨a, 0, none⟩)] w fun x w' => x = .returned (.int .i64 e) ∧ w' = w := by
  obtain ⟨h1, h2, h3, c0, c1, c2, f1, f2⟩ := h
  go_enter Tryd.func84, Tryd.ntmps84
  go_wp2
  go_ret
  exact ⟨rfl, rfl⟩
theorem rStopped (a : Nat) (s : ByteArray) (p : Nat) (e : Int) (w : World) (h : Rd w a s p e) :
    Calls Tryd.prog 80 #[.pointer (some ⟨a, 0, none⟩)] w fun x w' => x = .returned (.bool (e != 0)) ∧ w' = w := by
  have H := hide h
  clear h
  go_enter Tryd.func80, Tryd.ntmps80
  go_wp2_with fail
  refine (rErr a s p e _ (unhide H)).mono ?_
  rintro x w1 ⟨rfl, rfl⟩
  go_wp2
  go_ret
  exact ⟨rfl, rfl⟩
theorem rStop0 (a : Nat) (s : ByteArray) (p : Nat) (w : World) (h : Rd w a s p 0) :
    Calls Tryd.prog 80 #[.pointer (some ⟨a, 0, none⟩)] w fun x w' => x = .returned (.bool false) ∧ w' = w := rStopped a s p 0 w h
theorem rStop1 (a : Nat) (s : ByteArray) (p : Nat) (e : Int) (w : World) (h : Rd w a s p e) (he : e ≠ 0) :
    Calls Tryd.prog 80 #[.pointer (some ⟨a, 0, none⟩)] w fun x w' => x = .returned (.bool true) ∧ w' = w := by
  have := rStopped a s p e w h
  rw [bne_iff_ne.2 he] at this
  exact this
theorem rLeft (a : Nat) (s : ByteArray) (p : Nat) (e : Int) (w : World) (h : Rd w a s p e) :
    Calls Tryd.prog 81 #[.pointer (some ⟨a, 0, none⟩)] w fun x w' => x = .returned (.int .i64 ((s.size : Int) - p)) ∧ ∃ n, w' = w.drewN n := by
  obtain ⟨h1, h2, h3, c0, c1, c2, f1, f2⟩ := h
  go_enter Tryd.func81, Tryd.ntmps81
  go_wp2
  go_quiet (fail)
  go_wp2
  go_ret
  exact ⟨rfl, _, rfl⟩
theorem rFail1 (a : Nat) (s : ByteArray) (p : Nat) (e : Int) (x : Int) (w : World) (h : Rd w a s p e) (he : e ≠ 0) :
    Calls Tryd.prog 79 #[.pointer (some ⟨a, 0, none⟩), .int .i64 x] w fun x w' => x = .returned (.tuple #[]) ∧ w' = w := by
  have H := hide h
  clear h
  go_enter Tryd.func79, Tryd.ntmps79
  go_wp2_with fail
  refine (rStop1 a s p e _ (unhide H) he).mono ?_
  rintro x w1 ⟨rfl, rfl⟩
  go_wp2
  go_returns
  exact ⟨rfl, rfl⟩
theorem rFail0 (a : Nat) (s : ByteArray) (p : Nat) (x : Int) (w : World) (h : Rd w a s p 0) :
    Calls Tryd.prog 79 #[.pointer (some ⟨a, 0, none⟩), .int .i64 x] w fun y w' => y = .returned (.tuple #[]) ∧ Rt w w' a s p x := by
  have H := hide h
  obtain ⟨h1, h2, h3, c0, c1, c2, f1, f2⟩ := h
  clear c0 c1
  go_enter Tryd.func79, Tryd.ntmps79
  go_wp2_with fail
  refine (rStop0 a s p _ (unhide H)).mono ?_
  rintro y w1 ⟨rfl, rfl⟩
  go_wp2
  go_returns
  exact ⟨rfl, (unhide H).setErr x, (Upd.refl _ _ _).setCell _ _⟩
/-- what Fail makes of an error -/
def failE (e x : Int) : Int := if e = 0 then x else e
theorem rFail (a : Nat) (s : ByteArray) (p : Nat) (e x : Int) (w : World) (h : Rd w a s p e) :
    Calls Tryd.prog 79 #[.pointer (some ⟨a, 0, none⟩), .int .i64 x] w fun y w' => y = .returned (.tuple #[]) ∧ Rt w w' a s p (failE e x) := by
  by_cases he : e = 0
  · subst he
    exact rFail0 a s p x w h
  · refine (rFail1 a s p e x w h he).mono ?_
    rintro y w1 ⟨rfl, rfl⟩
    refine ⟨rfl, ?_⟩
    rw [failE, if_neg he]
    exact Rt.refl h
/-- what Raw takes -/
def rawS (s : ByteArray) (p : Nat) (e n : Int) : ByteArray × Nat × Int :=
  if e ≠ 0 then (⟨#[]⟩, p, e) else if n < 0 then (⟨#[]⟩, p, 1) else if (s.size : Int) - p < n then (⟨#[]⟩, p, 10) else (s.extract p (p + n.toNat), p + n.toNat, 0)
theorem rRaw (a : Nat) (s : ByteArray) (p : Nat) (e n : Int) (w : World) (h : Rd w a s p e) :
    Calls Tryd.prog 72 #[.pointer (some ⟨a, 0, none⟩), .int .i64 n] w fun y w' => y = .returned (.string (rawS s p e n).1) ∧ Rt w w' a s (rawS s p e n).2.1 (rawS s p e n).2.2 := by
  have H := hide h
  have hle := h.le
  have hmx := h.max
  by_cases he : e = 0
  · subst he
    by_cases hn : n < 0
    · have hr : rawS s p 0 n = (⟨#[]⟩, p, 1) := by unfold rawS; rw [if_neg (by simp), if_pos hn]
      rw [hr]
      clear hr h
      go_enter Tryd.func72, Tryd.ntmps72
      go_wp2_with fail
      refine (rStop0 a s p _ (unhide H)).mono ?_
      rintro x w1 ⟨rfl, rfl⟩
      go_wp2_with fail
      refine (rFail0 a s p 1 _ (unhide H)).mono ?_
      rintro x w1 ⟨rfl, hp⟩
      have HP := hide hp
      clear hp
      go_wp2
      go_ret
      exact ⟨rfl, unhide HP⟩
    · by_cases hl : (s.size : Int) - p < n
      · have hr : rawS s p 0 n = (⟨#[]⟩, p, 10) := by unfold rawS; rw [if_neg (by simp), if_neg hn, if_pos hl]
        rw [hr]
        clear hr h
        go_enter Tryd.func72, Tryd.ntmps72
        go_wp2_with fail
        refine (rStop0 a s p _ (unhide H)).mono ?_
        rintro x w1 ⟨rfl, rfl⟩
        go_wp2_with fail
        refine (rLeft a s p 0 _ (unhide H)).mono ?_
        rintro x w1 ⟨rfl, k, rfl⟩
        go_wp2_with fail
        refine (rFail0 a s p 10 _ ((unhide H).drewN k)).mono ?_
        rintro x w1 ⟨rfl, hp⟩
        have HP := hide hp
        clear hp
        go_wp2
        go_ret
        exact ⟨rfl, (unhide HP).1, ((Upd.refl _ _ _).drewN k).trans (unhide HP).2 (.inl rfl)⟩
      · obtain ⟨m, rfl⟩ := Int.eq_ofNat_of_zero_le (by omega : 0 ≤ n)
        have hr : rawS s p 0 m = (s.extract p (p + m), p + m, 0) := by unfold rawS; rw [if_neg (by simp), if_neg hn, if_neg hl]; rfl
        rw [hr]
        clear hr
        obtain ⟨h1, h2, h3, c0, c1, c2, f1, f2⟩ := h
        clear c2 f2
        have hpm : (p : Int) + m ≤ s.size := by omega
        go_enter Tryd.func72, Tryd.ntmps72
        go_wp2_with fail
        refine (rStop0 a s p _ (unhide H)).mono ?_
        rintro x w1 ⟨rfl, rfl⟩
        go_wp2_with fail
        refine (rLeft a s p 0 _ (unhide H)).mono ?_
        rintro x w1 ⟨rfl, k, rfl⟩
        go_wp2
        go_quiet (fail)
        go_wp2
        go_ret
        have h' := ((unhide H).drewN (k + nq)).setAt (p + m) (by omega)
        rw [Int.natCast_add] at h'
        exact ⟨rfl, h', ((Upd.refl _ _ _).drewN _).setCell _ _⟩
  · have hr : rawS s p e n = (⟨#[]⟩, p, e) := by unfold rawS; rw [if_pos he]
    rw [hr]
    clear hr h
    have HE := hide he
    clear he
    go_enter Tryd.func72, Tryd.ntmps72
    go_wp2_with fail
    refine (rStop1 a s p e _ (unhide H) (unhide HE)).mono ?_
    rintro x w1 ⟨rfl, rfl⟩
    go_wp2
    go_ret
    exact ⟨rfl, Rt.refl (unhide H)⟩
theorem rNew (s : ByteArray) (w : World) :
    Calls Tryd.prog 69 #[.string s] w fun e w' => e = .returned (.pointer (some ⟨w.heap.size, 0, none⟩)) ∧ w' = w.alloc (.cells #[.string s, .int .i64 0, .int .i64 0] 148) := by
  go_enter Tryd.func69, Tryd.ntmps69
  go_wp2
  go_ret
  exact ⟨rfl, rfl⟩
theorem Rd.new (s : ByteArray) (w : World) (t : TypeId) (hs : s.size ≤ 140737488355328) : Rd (w.alloc (.cells #[.string s, .int .i64 0, .int .i64 0] t)) w.heap.size s 0 0 where
  lt := by simp
  le := Nat.zero_le _
  max := hs
  c0 := by simp [go_sem]
  c1 := by simp [go_sem]
  c2 := by simp [go_sem]
  f1 := by rw [frozen?_alloc_cells]; simp [World.frozen?]
  f2 := by rw [frozen?_alloc_cells]; simp [World.frozen?]
section
/-- the number that bytes are, the highest first -/
def numB (l : List UInt8) : Nat := l.foldl (fun v b => v * 256 + b.toNat) 0
theorem numB_snoc (l : List UInt8) (b : UInt8) : numB (l ++ [b]) = numB l * 256 + b.toNat := by simp [numB]
theorem numB_acc (l : List UInt8) (v : Nat) : l.foldl (fun v b => v * 256 + b.toNat) v < (v + 1) * 256 ^ l.length := by
  induction l generalizing v with
  | nil => simp
  | cons b l ih =>
    rw [List.foldl_cons, List.length_cons, Nat.pow_succ, Nat.mul_comm (256 ^ l.length) 256, ← Nat.mul_assoc]
    refine Nat.lt_of_lt_of_le (ih _) (Nat.mul_le_mul_right _ ?_)
    have := b.toNat_lt
    omega
theorem numB_lt (l : List UInt8) : numB l < 256 ^ l.length := by
  have := numB_acc l 0
  simpa [numB] using this
theorem or_byte (v : Nat) (b : UInt8) (hv : v < 72057594037927936) : bits .or .u64 ((v : Int) * 256) (IntKind.u64.wrap (b.toNat : Int)) = ((v * 256 + b.toNat : Nat) : Int) := by
  have hb := b.toNat_lt
  have e : IntKind.u64.wrap (b.toNat : Int) = ((b.toNat : Nat) : Int) := by rw [IntKind.wrap_u64]; omega
  have e2 : ((v : Int) * 256) = ((v * 256 : Nat) : Int) := by omega
  rw [e, e2, u64_or_nat _ _ (by omega) (by omega)]
  congr 1
  have := Nat.two_pow_add_eq_or_of_lt (i := 8) (b := b.toNat) hb v
  rw [Nat.mul_comm v 256]
  exact this.symm
theorem take_snoc (s : ByteArray) (k : Nat) (h : k < s.size) : s.data.toList.take (k + 1) = s.data.toList.take k ++ [s[k]] := by
  rw [List.take_succ_eq_append_getElem (by simpa using h)]; rfl
/-- the value that Fixed answers -/
def fixS (s : ByteArray) (p : Nat) (e n : Int) : Nat × Nat × Int :=
  if n < 1 ∨ 8 < n then (0, p, failE e 1) else (numB (rawS s p e n).1.data.toList, (rawS s p e n).2.1, (rawS s p e n).2.2)
theorem rawS_size (s : ByteArray) (p : Nat) (e n : Int) : ((rawS s p e n).1.size : Int) ≤ max n 0 := by
  unfold rawS
  split
  · simp [ByteArray.size]; omega
  · split
    · simp [ByteArray.size]; omega
    · split
      · simp [ByteArray.size]; omega
      · simp; omega
set_option maxRecDepth 100000 in
set_option maxHeartbeats 400000 in
theorem rFixed (a : Nat) (s : ByteArray) (p : Nat) (e n : Int) (w : World) (h : Rd w a s p e) :
    Calls Tryd.prog 70 #[.pointer (some ⟨a, 0, none⟩), .int .i64 n] w fun y w' => y = .returned (.int .u64 (fixS s p e n).1) ∧ Rt w w' a s (fixS s p e n).2.1 (fixS s p e n).2.2 := by
  have H := hide h
  have hle := h.le
  clear h
  by_cases hn1 : n < 1
  · have hr : fixS s p e n = (0, p, failE e 1) := if_pos (.inl hn1)
    rw [hr]
    clear hr
    go_enter Tryd.func70, Tryd.ntmps70
    go_wp2_with fail
    refine (rFail a s p e 1 _ (unhide H)).mono ?_
    rintro x w1 ⟨rfl, hp⟩
    have HP := hide hp
    clear hp
    go_wp2
    go_ret
    exact ⟨rfl, unhide HP⟩
  · by_cases hn8 : 8 < n
    · have hr : fixS s p e n = (0, p, failE e 1) := if_pos (.inr hn8)
      rw [hr]
      clear hr
      go_enter Tryd.func70, Tryd.ntmps70
      go_wp2_with fail
      refine (rFail a s p e 1 _ (unhide H)).mono ?_
      rintro x w1 ⟨rfl, hp⟩
      have HP := hide hp
      clear hp
      go_wp2
      go_ret
      exact ⟨rfl, unhide HP⟩
    · have hr : fixS s p e n = (numB (rawS s p e n).1.data.toList, (rawS s p e n).2.1, (rawS s p e n).2.2) := if_neg (by omega)
      have hsz := rawS_size s p e n
      rw [hr]
      clear hr
      have hraw := rRaw a s p e n w (unhide H)
      generalize rawS s p e n = q at hraw hsz ⊢
      obtain ⟨t, p', e'⟩ := q
      simp only at hraw hsz ⊢
      have ht : t.size ≤ 8 := by omega
      have HR := hide hraw
      clear hraw hsz
      go_enter Tryd.func70, Tryd.ntmps70
      go_wp2_with fail
      refine (unhide HR).mono ?_
      rintro x w1 ⟨rfl, hp⟩
      have HP := hide hp
      clear hp
      go_wp2
      go_loop [6, 21] (fun v i => ∃ k : Nat, k ≤ t.size ∧ i = .int .i64 k ∧ v = .int .u64 (numB (t.data.toList.take k))) (fun _ i => t.size - (intOf i).toNat)
      case atStart => exact ⟨0, Nat.zero_le _, rfl, rfl⟩
      case round =>
        obtain ⟨k, hk, rfl, rfl⟩ := hrel
        have hb := numB_lt (t.data.toList.take k)
        by_cases hlt : k < t.size
        · have hts := take_snoc t k hlt
          have hsn := numB_snoc (t.data.toList.take k) t[k]
          have HS : Hid (numB (t.data.toList.take (k + 1)) = numB (t.data.toList.take k) * 256 + t[k].toNat) := by rw [hts]; exact hsn
          have hlk : numB (t.data.toList.take k) < 72057594037927936 := by
            rw [List.length_take, size_toList, Nat.min_eq_left (by omega)] at hb
            have : 256 ^ k ≤ 256 ^ 7 := Nat.pow_le_pow_right (by decide) (by omega)
            omega
          clear hts hsn hb
          generalize hv : numB (t.data.toList.take k) = v at *
          have HV := hide hv
          clear hv
          go_wp2
          go_round
          case rel => exact ⟨k + 1, by omega, by go_num, by rw [or_byte v _ hlk, unhide HS]⟩
          case measure => simp [intOf]; omega
        · have hkk : k = t.size := by omega
          have e : numB (t.data.toList.take k) = numB t.data.toList := by rw [List.take_of_length_le (by rw [size_toList]; omega)]
          have E := hide e
          clear e hb hkk
          go_wp2
          go_ret
          rw [unhide E]
          exact ⟨rfl, unhide HP⟩

theorem rByte (a : Nat) (s : ByteArray) (p : Nat) (e : Int) (w : World) (h : Rd w a s p e) :
    Calls Tryd.prog 71 #[.pointer (some ⟨a, 0, none⟩)] w fun y w' => y = .returned (.int .u8 ((fixS s p e 1).1 % 256 : Nat)) ∧ Rt w w' a s (fixS s p e 1).2.1 (fixS s p e 1).2.2 := by
  have hfix := rFixed a s p e 1 w h
  generalize fixS s p e 1 = q at hfix ⊢
  obtain ⟨t, p', e'⟩ := q
  simp only at hfix ⊢
  have HR := hide hfix
  clear hfix h
  go_enter Tryd.func71, Tryd.ntmps71
  go_wp2_with fail
  refine (unhide HR).mono ?_
  rintro x w1 ⟨rfl, hp⟩
  have HP := hide hp
  clear hp
  go_wp2
  go_ret
  refine ⟨?_, unhide HP⟩
  show Ending.returned (.int .u8 ((t : Int) % 256)) = _
  rw [Int.natCast_emod]; rfl
end
end Go.Proofs.YtfdfbjijomepgaaDoor
