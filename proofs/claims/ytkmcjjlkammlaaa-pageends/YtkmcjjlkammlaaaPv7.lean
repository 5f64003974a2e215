/- What is wanted of the page here. -/
import Derived.Test.YtkmcjjlkammlaaaRows
import Derived.WalkKit
import Derived.WalkLawsBesides
import Derived.ProofKit
import Derived.OpenShut
import Derived.Handy
import Derived.Laws.BitsAllLaws
import Derived.Laws.IdiomStrings
import Derived.Laws.DeepStrings4
import Derived.Deep.QuietTactic
import Derived.BigQuiet
import Derived.WalkSmall
import Derived.Lib.BufferWrite
import Derived.Lib.SlBuf
import Derived.Lib.ConvBytes
import Derived.Deep.RegionHeld3
import Derived.Deep.MidRow
import Derived.Deep.Heap
import Derived.Great.Walk
import Derived.Laws.Slices
import Derived.Deep.OwnRows
import Derived.Lib.AppendZeros
import Derived.ArgAppend
import Derived.Laws.CopyOwn
import Derived.ChangeKeysEq
import Derived.Laws.StructEq
import Derived.SizedLaws
import Derived.Deep.Slices
namespace Go.Proofs.Ytkmcjjlkammlaaa
section
open Go.RowKit
theorem hide {p : Prop} (h : p) : Hid p := h
theorem unhide {p : Prop} (h : Hid p) : p := h
end
section
open Go.RowKit Go.Lib
/-- what is done to the blocks a and r, and to new ones, alone -/
structure Upd (w w' : World) (a r : Nat) : Prop where
  os : w'.os = w.os
  tape : w'.tape = w.tape
  output : w'.output = w.output
  size : w.heap.size ≤ w'.heap.size
  block : ∀ k, k < w.heap.size → k ≠ a → k ≠ r → w'.heap[k]? = w.heap[k]?
theorem Upd.refl (w : World) (a r : Nat) : Upd w w a r := ⟨rfl, rfl, rfl, Nat.le_refl _, fun _ _ _ _ => rfl⟩
theorem Upd.trans {w w1 w2 : World} {a r r1 : Nat} (h : Upd w w1 a r) (k : Upd w1 w2 a r1) (hr : r1 = r ∨ w.heap.size ≤ r1) : Upd w w2 a r :=
  ⟨k.os.trans h.os, k.tape.trans h.tape, k.output.trans h.output, Nat.le_trans h.size k.size, fun i hi h1 h2 => by
    rw [k.block i (Nat.lt_of_lt_of_le hi h.size) h1 (by rcases hr with rfl | hr; exact h2; omega), h.block i hi h1 h2]⟩
theorem Upd.cell {w w' : World} {a r : Nat} (h : Upd w w' a r) {p : Addr} (hp : p.block < w.heap.size) (h1 : p.block ≠ a) (h2 : p.block ≠ r) : w'.cell? p = w.cell? p :=
  World.cell?_of_block (w := w) (h.block p.block hp h1 h2)
theorem Upd.below {w w' : World} {a r B : Nat} (h : Upd w w' a r) (hB : B ≤ w.heap.size) (ha : B ≤ a) (hr : B ≤ r) : Below B w w' :=
  ⟨h.os, h.tape, h.output, h.size, fun k hk => h.block k (by omega) (by omega) (by omega)⟩
theorem Upd.alloc {w w' : World} {a r : Nat} (h : Upd w w' a r) (o : Obj) : Upd w (w'.alloc o) a r :=
  ⟨h.os, h.tape, h.output, by have := h.size; simp; omega, fun k hk h1 h2 => by rw [Below.heap_alloc w' o k (by have := h.size; omega)]; exact h.block k hk h1 h2⟩
theorem Upd.drew {w w' : World} {a r : Nat} (h : Upd w w' a r) : Upd w w'.drew a r := ⟨h.os, h.tape, h.output, h.size, h.block⟩

theorem info5 : (Try.prog.info? 5).map (fun i => (i.zero, i.size, i.bytes)) = some (some (.int .u8 0), 1, 1) := by kernel_rfl

theorem size_toList (s : ByteArray) : s.data.toList.length = s.size := by rw [Array.length_toList]; rfl
section
end
end
section
/-- the polynomial of the check sum, its bits turned round -/
def P : Nat := 0x82F63B78
end
section
open Go.RowKit Go.Lib
/-- a reader at block a over the bytes s, so many taken, with that error -/
structure Rd (w : World) (a : Nat) (s : ByteArray) (p : Nat) (e : Int) : Prop where
  lt : a < w.heap.size
  le : p ≤ s.size
  max : s.size ≤ 140737488355328
  c0 : w.cell? ⟨a, 0, none⟩ = some (.string s)
  c1 : w.cell? ⟨a, 1, none⟩ = some (.int .i64 p)
  c2 : w.cell? ⟨a, 2, none⟩ = some (.int .i64 e)
  f1 : w.frozen? ⟨a, 1, none⟩ = false
  f2 : w.frozen? ⟨a, 2, none⟩ = false
/-- what a call leaves -/
def Rt (w w' : World) (a : Nat) (s : ByteArray) (p : Nat) (e : Int) : Prop := Rd w' a s p e ∧ Upd w w' a a
theorem Rd.same {w w' : World} {a : Nat} {s : ByteArray} {p : Nat} {e : Int} (h : Rd w a s p e) (hs : w.heap.size ≤ w'.heap.size) (hb : w'.heap[a]? = w.heap[a]?) : Rd w' a s p e where
  lt := by have := h.lt; omega
  le := h.le
  max := h.max
  c0 := by rw [World.cell?_of_block (w := w) (a := ⟨a, 0, none⟩) hb]; exact h.c0
  c1 := by rw [World.cell?_of_block (w := w) (a := ⟨a, 1, none⟩) hb]; exact h.c1
  c2 := by rw [World.cell?_of_block (w := w) (a := ⟨a, 2, none⟩) hb]; exact h.c2
  f1 := by rw [World.frozen?_of_block (w := w) (a := ⟨a, 1, none⟩) hb]; exact h.f1
  f2 := by rw [World.frozen?_of_block (w := w) (a := ⟨a, 2, none⟩) hb]; exact h.f2
theorem Rd.alloc {w : World} {a : Nat} {s : ByteArray} {p : Nat} {e : Int} (h : Rd w a s p e) (o : Obj) : Rd (w.alloc o) a s p e := h.same (by simp) (Below.heap_alloc w o a h.lt)
theorem Rd.drewN {w : World} {a : Nat} {s : ByteArray} {p : Nat} {e : Int} (h : Rd w a s p e) (n : Nat) : Rd (w.drewN n) a s p e := ⟨h.lt, h.le, h.max, h.c0, h.c1, h.c2, h.f1, h.f2⟩
theorem Rd.setErr {w : World} {a : Nat} {s : ByteArray} {p : Nat} {e : Int} (h : Rd w a s p e) (e' : Int) : Rd (w.setCell ⟨a, 2, none⟩ (.int .i64 e')) a s p e' where
  lt := by simpa using h.lt
  le := h.le
  max := h.max
  c0 := by rw [World.cell?_setCell_other _ _ _ _ (by simp)]; exact h.c0
  c1 := by rw [World.cell?_setCell_other _ _ _ _ (by simp)]; exact h.c1
  c2 := World.cell?_setCell_same _ _ _ h.c2
  f1 := by simpa using h.f1
  f2 := by simpa using h.f2
theorem Rd.setAt {w : World} {a : Nat} {s : ByteArray} {p : Nat} {e : Int} (h : Rd w a s p e) (p' : Nat) (hp : p' ≤ s.size) : Rd (w.setCell ⟨a, 1, none⟩ (.int .i64 p')) a s p' e where
  lt := by simpa using h.lt
  le := hp
  max := h.max
  c0 := by rw [World.cell?_setCell_other _ _ _ _ (by simp)]; exact h.c0
  c1 := World.cell?_setCell_same _ _ _ h.c1
  c2 := by rw [World.cell?_setCell_other _ _ _ _ (by simp)]; exact h.c2
  f1 := by simpa using h.f1
  f2 := by simpa using h.f2
theorem Upd.setCell {w w' : World} {a r : Nat} (h : Upd w w' a r) (i : Nat) (v : Value) : Upd w (w'.setCell ⟨a, i, none⟩ v) a r :=
  ⟨h.os, h.tape, h.output, by simp; exact h.size, fun k hk h1 h2 => by rw [Below.heap_setCell w' ⟨a, i, none⟩ v k h1]; exact h.block k hk h1 h2⟩
theorem Upd.drewN {w w' : World} {a r : Nat} (h : Upd w w' a r) (n : Nat) : Upd w (w'.drewN n) a r := ⟨h.os, h.tape, h.output, h.size, h.block⟩
theorem Rt.refl {w : World} {a : Nat} {s : ByteArray} {p : Nat} {e : Int} (h : Rd w a s p e) : Rt w w a s p e := ⟨h, Upd.refl _ _ _⟩
theorem rErr (a : Nat) (s : ByteArray) (p : Nat) (e : Int) (w : World) (h : Rd w a s p e) :
    Calls Try.prog 19 #[.pointer (some ⟨a, 0, none⟩)] w fun x w' => x = .returned (.int .i64 e) ∧ w' = w := by
  obtain ⟨h1, h2, h3, c0, c1, c2, f1, f2⟩ := h
  go_enter Try.func19, Try.ntmps19
  go_wp2
  go_ret
  exact ⟨rfl, rfl⟩
theorem rStopped (a : Nat) (s : ByteArray) (p : Nat) (e : Int) (w : World) (h : Rd w a s p e) :
    Calls Try.prog 17 #[.pointer (some ⟨a, 0, none⟩)] w fun x w' => x = .returned (.bool (e != 0)) ∧ w' = w := by
  have H := hide h
  clear h
  go_enter Try.func17, Try.ntmps17
  go_wp2_with fail
  refine (rErr a s p e _ (unhide H)).mono ?_
  rintro x w1 ⟨rfl, rfl⟩
  go_wp2
  go_ret
  exact ⟨rfl, rfl⟩
theorem rStop0 (a : Nat) (s : ByteArray) (p : Nat) (w : World) (h : Rd w a s p 0) :
    Calls Try.prog 17 #[.pointer (some ⟨a, 0, none⟩)] w fun x w' => x = .returned (.bool false) ∧ w' = w := rStopped a s p 0 w h
theorem rStop1 (a : Nat) (s : ByteArray) (p : Nat) (e : Int) (w : World) (h : Rd w a s p e) (he : e ≠ 0) :
    Calls Try.prog 17 #[.pointer (some ⟨a, 0, none⟩)] w fun x w' => x = .returned (.bool true) ∧ w' = w := by
  have := rStopped a s p e w h
  rw [bne_iff_ne.2 he] at this
  exact this
theorem rLeft (a : Nat) (s : ByteArray) (p : Nat) (e : Int) (w : World) (h : Rd w a s p e) :
    Calls Try.prog 18 #[.pointer (some ⟨a, 0, none⟩)] w fun x w' => x = .returned (.int .i64 ((s.size : Int) - p)) ∧ ∃ n, w' = w.drewN n := by
  obtain ⟨h1, h2, h3, c0, c1, c2, f1, f2⟩ := h
  go_enter Try.func18, Try.ntmps18
  go_wp2
  go_quiet (fail)
  go_wp2
  go_ret
  exact ⟨rfl, _, rfl⟩
theorem rFail1 (a : Nat) (s : ByteArray) (p : Nat) (e : Int) (x : Int) (w : World) (h : Rd w a s p e) (he : e ≠ 0) :
    Calls Try.prog 15 #[.pointer (some ⟨a, 0, none⟩), .int .i64 x] w fun x w' => x = .returned (.tuple #[]) ∧ w' = w := by
  have H := hide h
  clear h
  go_enter Try.func15, Try.ntmps15
  go_wp2_with fail
  refine (rStop1 a s p e _ (unhide H) he).mono ?_
  rintro x w1 ⟨rfl, rfl⟩
  go_wp2
  go_returns
  exact ⟨rfl, rfl⟩
theorem rFail0 (a : Nat) (s : ByteArray) (p : Nat) (x : Int) (w : World) (h : Rd w a s p 0) :
    Calls Try.prog 15 #[.pointer (some ⟨a, 0, none⟩), .int .i64 x] w fun y w' => y = .returned (.tuple #[]) ∧ Rt w w' a s p x := by
  have H := hide h
  obtain ⟨h1, h2, h3, c0, c1, c2, f1, f2⟩ := h
  clear c0 c1
  go_enter Try.func15, Try.ntmps15
  go_wp2_with fail
  refine (rStop0 a s p _ (unhide H)).mono ?_
  rintro y w1 ⟨rfl, rfl⟩
  go_wp2
  go_returns
  exact ⟨rfl, (unhide H).setErr x, (Upd.refl _ _ _).setCell _ _⟩
/-- what Fail makes of an error -/
def failE (e x : Int) : Int := if e = 0 then x else e
theorem rFail (a : Nat) (s : ByteArray) (p : Nat) (e x : Int) (w : World) (h : Rd w a s p e) :
    Calls Try.prog 15 #[.pointer (some ⟨a, 0, none⟩), .int .i64 x] w fun y w' => y = .returned (.tuple #[]) ∧ Rt w w' a s p (failE e x) := by
  by_cases he : e = 0
  · subst he
    exact rFail0 a s p x w h
  · refine (rFail1 a s p e x w h he).mono ?_
    rintro y w1 ⟨rfl, rfl⟩
    refine ⟨rfl, ?_⟩
    rw [failE, if_neg he]
    exact Rt.refl h
/-- what Raw takes -/
def rawS (s : ByteArray) (p : Nat) (e n : Int) : ByteArray × Nat × Int :=
  if e ≠ 0 then (⟨#[]⟩, p, e) else if n < 0 then (⟨#[]⟩, p, 1) else if (s.size : Int) - p < n then (⟨#[]⟩, p, 10) else (s.extract p (p + n.toNat), p + n.toNat, 0)
theorem rRaw (a : Nat) (s : ByteArray) (p : Nat) (e n : Int) (w : World) (h : Rd w a s p e) :
    Calls Try.prog 16 #[.pointer (some ⟨a, 0, none⟩), .int .i64 n] w fun y w' => y = .returned (.string (rawS s p e n).1) ∧ Rt w w' a s (rawS s p e n).2.1 (rawS s p e n).2.2 := by
  have H := hide h
  have hle := h.le
  have hmx := h.max
  by_cases he : e = 0
  · subst he
    by_cases hn : n < 0
    · have hr : rawS s p 0 n = (⟨#[]⟩, p, 1) := by unfold rawS; rw [if_neg (by simp), if_pos hn]
      rw [hr]
      clear hr h
      go_enter Try.func16, Try.ntmps16
      go_wp2_with fail
      refine (rStop0 a s p _ (unhide H)).mono ?_
      rintro x w1 ⟨rfl, rfl⟩
      go_wp2_with fail
      refine (rFail0 a s p 1 _ (unhide H)).mono ?_
      rintro x w1 ⟨rfl, hp⟩
      have HP := hide hp
      clear hp
      go_wp2
      go_ret
      exact ⟨rfl, unhide HP⟩
    · by_cases hl : (s.size : Int) - p < n
      · have hr : rawS s p 0 n = (⟨#[]⟩, p, 10) := by unfold rawS; rw [if_neg (by simp), if_neg hn, if_pos hl]
        rw [hr]
        clear hr h
        go_enter Try.func16, Try.ntmps16
        go_wp2_with fail
        refine (rStop0 a s p _ (unhide H)).mono ?_
        rintro x w1 ⟨rfl, rfl⟩
        go_wp2_with fail
        refine (rLeft a s p 0 _ (unhide H)).mono ?_
        rintro x w1 ⟨rfl, k, rfl⟩
        go_wp2_with fail
        refine (rFail0 a s p 10 _ ((unhide H).drewN k)).mono ?_
        rintro x w1 ⟨rfl, hp⟩
        have HP := hide hp
        clear hp
        go_wp2
        go_ret
        exact ⟨rfl, (unhide HP).1, ((Upd.refl _ _ _).drewN k).trans (unhide HP).2 (.inl rfl)⟩
      · obtain ⟨m, rfl⟩ := Int.eq_ofNat_of_zero_le (by omega : 0 ≤ n)
        have hr : rawS s p 0 m = (s.extract p (p + m), p + m, 0) := by unfold rawS; rw [if_neg (by simp), if_neg hn, if_neg hl]; rfl
        rw [hr]
        clear hr
        obtain ⟨h1, h2, h3, c0, c1, c2, f1, f2⟩ := h
        clear c2 f2
        have hpm : (p : Int) + m ≤ s.size := by omega
        go_enter Try.func16, Try.ntmps16
        go_wp2_with fail
        refine (rStop0 a s p _ (unhide H)).mono ?_
        rintro x w1 ⟨rfl, rfl⟩
        go_wp2_with fail
        refine (rLeft a s p 0 _ (unhide H)).mono ?_
        rintro x w1 ⟨rfl, k, rfl⟩
        go_wp2
        go_quiet (fail)
        go_wp2
        go_ret
        have h' := ((unhide H).drewN (k + nq)).setAt (p + m) (by omega)
        rw [Int.natCast_add] at h'
        exact ⟨rfl, h', ((Upd.refl _ _ _).drewN _).setCell _ _⟩
  · have hr : rawS s p e n = (⟨#[]⟩, p, e) := by unfold rawS; rw [if_pos he]
    rw [hr]
    clear hr h
    have HE := hide he
    clear he
    go_enter Try.func16, Try.ntmps16
    go_wp2_with fail
    refine (rStop1 a s p e _ (unhide H) (unhide HE)).mono ?_
    rintro x w1 ⟨rfl, rfl⟩
    go_wp2
    go_ret
    exact ⟨rfl, Rt.refl (unhide H)⟩
theorem rNew (s : ByteArray) (w : World) :
    Calls Try.prog 13 #[.string s] w fun e w' => e = .returned (.pointer (some ⟨w.heap.size, 0, none⟩)) ∧ w' = w.alloc (.cells #[.string s, .int .i64 0, .int .i64 0] 41) := by
  go_enter Try.func13, Try.ntmps13
  go_wp2
  go_ret
  exact ⟨rfl, rfl⟩
theorem Rd.new (s : ByteArray) (w : World) (t : TypeId) (hs : s.size ≤ 140737488355328) : Rd (w.alloc (.cells #[.string s, .int .i64 0, .int .i64 0] t)) w.heap.size s 0 0 where
  lt := by simp
  le := Nat.zero_le _
  max := hs
  c0 := by simp [go_sem]
  c1 := by simp [go_sem]
  c2 := by simp [go_sem]
  f1 := by rw [frozen?_alloc_cells]; simp [World.frozen?]
  f2 := by rw [frozen?_alloc_cells]; simp [World.frozen?]
section
/-- the number that bytes are, the highest first -/
def numB (l : List UInt8) : Nat := l.foldl (fun v b => v * 256 + b.toNat) 0
theorem numB_snoc (l : List UInt8) (b : UInt8) : numB (l ++ [b]) = numB l * 256 + b.toNat := by simp [numB]
theorem numB_acc (l : List UInt8) (v : Nat) : l.foldl (fun v b => v * 256 + b.toNat) v < (v + 1) * 256 ^ l.length := by
  induction l generalizing v with
  | nil => simp
  | cons b l ih =>
    rw [List.foldl_cons, List.length_cons, Nat.pow_succ, Nat.mul_comm (256 ^ l.length) 256, ← Nat.mul_assoc]
    refine Nat.lt_of_lt_of_le (ih _) (Nat.mul_le_mul_right _ ?_)
    have := b.toNat_lt
    omega
theorem numB_lt (l : List UInt8) : numB l < 256 ^ l.length := by
  have := numB_acc l 0
  simpa [numB] using this
theorem or_byte (v : Nat) (b : UInt8) (hv : v < 72057594037927936) : bits .or .u64 ((v : Int) * 256) (IntKind.u64.wrap (b.toNat : Int)) = ((v * 256 + b.toNat : Nat) : Int) := by
  have hb := b.toNat_lt
  have e : IntKind.u64.wrap (b.toNat : Int) = ((b.toNat : Nat) : Int) := by rw [IntKind.wrap_u64]; omega
  have e2 : ((v : Int) * 256) = ((v * 256 : Nat) : Int) := by omega
  rw [e, e2, u64_or_nat _ _ (by omega) (by omega)]
  congr 1
  have := Nat.two_pow_add_eq_or_of_lt (i := 8) (b := b.toNat) hb v
  rw [Nat.mul_comm v 256]
  exact this.symm
theorem take_snoc (s : ByteArray) (k : Nat) (h : k < s.size) : s.data.toList.take (k + 1) = s.data.toList.take k ++ [s[k]] := by
  rw [List.take_succ_eq_append_getElem (by simpa using h)]; rfl
/-- the value that Fixed answers -/
def fixS (s : ByteArray) (p : Nat) (e n : Int) : Nat × Nat × Int :=
  if n < 1 ∨ 8 < n then (0, p, failE e 1) else (numB (rawS s p e n).1.data.toList, (rawS s p e n).2.1, (rawS s p e n).2.2)
theorem rawS_size (s : ByteArray) (p : Nat) (e n : Int) : ((rawS s p e n).1.size : Int) ≤ max n 0 := by
  unfold rawS
  split
  · simp [ByteArray.size]; omega
  · split
    · simp [ByteArray.size]; omega
    · split
      · simp [ByteArray.size]; omega
      · simp; omega
set_option maxRecDepth 100000 in
set_option maxHeartbeats 400000 in
theorem rFixed (a : Nat) (s : ByteArray) (p : Nat) (e n : Int) (w : World) (h : Rd w a s p e) :
    Calls Try.prog 14 #[.pointer (some ⟨a, 0, none⟩), .int .i64 n] w fun y w' => y = .returned (.int .u64 (fixS s p e n).1) ∧ Rt w w' a s (fixS s p e n).2.1 (fixS s p e n).2.2 := by
  have H := hide h
  have hle := h.le
  clear h
  by_cases hn1 : n < 1
  · have hr : fixS s p e n = (0, p, failE e 1) := if_pos (.inl hn1)
    rw [hr]
    clear hr
    go_enter Try.func14, Try.ntmps14
    go_wp2_with fail
    refine (rFail a s p e 1 _ (unhide H)).mono ?_
    rintro x w1 ⟨rfl, hp⟩
    have HP := hide hp
    clear hp
    go_wp2
    go_ret
    exact ⟨rfl, unhide HP⟩
  · by_cases hn8 : 8 < n
    · have hr : fixS s p e n = (0, p, failE e 1) := if_pos (.inr hn8)
      rw [hr]
      clear hr
      go_enter Try.func14, Try.ntmps14
      go_wp2_with fail
      refine (rFail a s p e 1 _ (unhide H)).mono ?_
      rintro x w1 ⟨rfl, hp⟩
      have HP := hide hp
      clear hp
      go_wp2
      go_ret
      exact ⟨rfl, unhide HP⟩
    · have hr : fixS s p e n = (numB (rawS s p e n).1.data.toList, (rawS s p e n).2.1, (rawS s p e n).2.2) := if_neg (by omega)
      have hsz := rawS_size s p e n
      rw [hr]
      clear hr
      have hraw := rRaw a s p e n w (unhide H)
      generalize rawS s p e n = q at hraw hsz ⊢
      obtain ⟨t, p', e'⟩ := q
      simp only at hraw hsz ⊢
      have ht : t.size ≤ 8 := by omega
      have HR := hide hraw
      clear hraw hsz
      go_enter Try.func14, Try.ntmps14
      go_wp2_with fail
      refine (unhide HR).mono ?_
      rintro x w1 ⟨rfl, hp⟩
      have HP := hide hp
      clear hp
      go_wp2
      go_loop [6, 21] (fun v i => ∃ k : Nat, k ≤ t.size ∧ i = .int .i64 k ∧ v = .int .u64 (numB (t.data.toList.take k))) (fun _ i => t.size - (RowKit.intOf i).toNat)
      case atStart => exact ⟨0, Nat.zero_le _, rfl, rfl⟩
      case round =>
        obtain ⟨k, hk, rfl, rfl⟩ := hrel
        have hb := numB_lt (t.data.toList.take k)
        by_cases hlt : k < t.size
        · have hts := take_snoc t k hlt
          have hsn := numB_snoc (t.data.toList.take k) t[k]
          have HS : Hid (numB (t.data.toList.take (k + 1)) = numB (t.data.toList.take k) * 256 + t[k].toNat) := by rw [hts]; exact hsn
          have hlk : numB (t.data.toList.take k) < 72057594037927936 := by
            rw [List.length_take, size_toList, Nat.min_eq_left (by omega)] at hb
            have : 256 ^ k ≤ 256 ^ 7 := Nat.pow_le_pow_right (by decide) (by omega)
            omega
          clear hts hsn hb
          generalize hv : numB (t.data.toList.take k) = v at *
          have HV := hide hv
          clear hv
          go_wp2
          go_round
          case rel => exact ⟨k + 1, by omega, by go_num, by rw [or_byte v _ hlk, unhide HS]⟩
          case measure => simp [RowKit.intOf]; omega
        · have hkk : k = t.size := by omega
          have e : numB (t.data.toList.take k) = numB t.data.toList := by rw [List.take_of_length_le (by rw [size_toList]; omega)]
          have E := hide e
          clear e hb hkk
          go_wp2
          go_ret
          rw [unhide E]
          exact ⟨rfl, unhide HP⟩

end
end
section
open Go.RowKit Go.Lib
theorem heapRow_other (w : World) (g k : Nat) (cs' : Array Value) (h : k ≠ g) : (w.setRow g cs').heap[k]? = w.heap[k]? := by
  simp only [World.setRow, Array.getElem?_modify]
  rw [if_neg (by omega)]
def img (l : List UInt8) : Array Value := (byteCells l).toArray
theorem img_size (l : List UInt8) : (img l).size = l.length := by simp [img, byteCells]
theorem img_at (l : List UInt8) (k : Nat) (h : k < l.length) : (img l)[k]? = some (.int .u8 (l[k].toNat : Int)) := by simp [img, byteCells, h]
def zeros (n : Nat) : List UInt8 := List.replicate n 0
theorem imgInfo : (Try.prog.info? 34).map (·.size) = some 1024 := by kernel_rfl
section
variable {w u u' : World} {X R G : Nat} {cs : Array Value} {l : List UInt8}
end
end
section
section
open Go.RowKit Go.Lib
/-- a row of bytes at block X -/
structure Row (w : World) (X : Nat) (bs : List UInt8) : Prop where
  lt : X < w.heap.size
  cell : ∀ j, j < bs.length → w.cell? ⟨X, j, none⟩ = some (.int .u8 ((bs.getD j 0).toNat : Int))
  frozen : ∀ j, j < bs.length → w.frozen? ⟨X, j, none⟩ = false
theorem row_run {w : World} {X n cap : Nat} {bs : List UInt8} (h : Row w X bs) (hn : bs.length = n) : (convert 22 9 (.slice (some ⟨X, 0, none⟩) n cap)).run Try.prog w = .ok (.string ⟨bs.toArray⟩) w := by
  subst hn
  refine run_convert_bytes_back w 22 9 5 ⟨X, 0, none⟩ cap bs Try.underlying22 Try.underlying5 Try.underlying9 fun j hj => ?_
  have := h.cell j hj
  simp only [List.getD, List.getElem?_eq_getElem hj, Option.getD_some] at this
  have e : (⟨X, 0, none⟩ : Addr).add j = ⟨X, j, none⟩ := by cases j <;> simp [Addr.add]
  rw [e]; exact this
theorem Row.made (w : World) (n : Nat) (t : TypeId) : Row (w.alloc (.cells (madeCells #[.int .u8 0] n) t)) w.heap.size (List.replicate n 0) where
  lt := by simp
  cell := fun j hj => by
    rw [List.length_replicate] at hj
    rw [World.cell?_alloc_new]
    simp [madeCells, List.getD, hj, Nat.mod_one]
  frozen := fun j hj => by rw [frozen?_alloc_cells]; simp [World.frozen?]
end
section
open Go.RowKit Go.Lib
theorem mNoughts (n : Nat) (hn : n ≤ 1024) (w : World) : Calls Try.prog 12 #[.int .i64 (n : Int)] w fun e w' => e = .returned (.string ⟨(zeros n).toArray⟩) ∧ Below w.heap.size w w' := by
  have hr := row_run (Row.made w n 5) (n := n) (cap := n) (by rw [List.length_replicate])
  have hmk := run_make_row' (P := Try.prog) 22 5 (.int .u8 0) 1 Try.underlying22 info5 rfl .i64 .i64 n (by omega) (by omega)
  have HB := hide ((Below.refl w.heap.size w).alloc (Nat.le_refl _) (.cells (madeCells #[.int .u8 0] n) 5))
  have h0 : (0 : Int) ≤ (n : Int) := by omega
  have h1 : (n : Int) ≤ 1024 := by omega
  clear hn
  go_enter Try.func12, Try.ntmps12
  go_wp2
  go_ret
  exact ⟨rfl, unhide HB⟩
end
end
section
open Go.RowKit
theorem heapCell_same {w : World} {g : Nat} {cs : Array Value} {t : TypeId} {fr : Nat × Nat} (h : w.heap[g]? = some (.cells cs t fr)) (k : Nat) (v : Value) : (w.setCell ⟨g, k, none⟩ v).heap[g]? = some (.cells (cs.setIfInBounds k v) t fr) := by
  simp [World.setCell, Array.getElem?_modify, h]
theorem info_parts {t : TypeId} {z : Value} {s b : Nat} (h : (Try.prog.info? t).map (fun i => (i.zero, i.size, i.bytes)) = some (some z, s, b)) : ∃ i, Try.prog.info? t = some i ∧ i.zero = some z ∧ i.size = s ∧ i.bytes = b := by
  cases hq : Try.prog.info? t with
  | none => simp [hq] at h
  | some i => simp [hq] at h; exact ⟨i, rfl, h.1, h.2.1, h.2.2⟩
section
end
end
section
open Go.RowKit
/-- what is done to the block g, and to new ones, alone -/
structure U1 (w w' : World) (g : Nat) : Prop where
  os : w'.os = w.os
  tape : w'.tape = w.tape
  output : w'.output = w.output
  size : w.heap.size ≤ w'.heap.size
  block : ∀ k, k < w.heap.size → k ≠ g → w'.heap[k]? = w.heap[k]?
theorem U1.refl (w : World) (g : Nat) : U1 w w g := ⟨rfl, rfl, rfl, Nat.le_refl _, fun _ _ _ => rfl⟩
theorem U1.set {w w' : World} {g : Nat} (h : U1 w w' g) (k : Nat) (v : Value) : U1 w (w'.setCell ⟨g, k, none⟩ v) g :=
  ⟨h.os, h.tape, h.output, by simpa [World.setCell] using h.size, fun q hq hn => (Deep.blk_setCell_other w' ⟨g, k, none⟩ v q hn).trans (h.block q hq hn)⟩
theorem U1.trans {a b c : World} {g : Nat} (h : U1 a b g) (k : U1 b c g) : U1 a c g :=
  ⟨k.os.trans h.os, k.tape.trans h.tape, k.output.trans h.output, Nat.le_trans h.size k.size, fun q hq hn => (k.block q (Nat.lt_of_lt_of_le hq h.size) hn).trans (h.block q hq hn)⟩
theorem U1.below' {a b : World} {g : Nat} (h : Below a.heap.size a b) : U1 a b g := ⟨h.os, h.tape, h.output, h.size, fun q hq _ => h.block q hq⟩
theorem U1.toBelow {w w' : World} {g B : Nat} (h : U1 w w' g) (hB : B ≤ w.heap.size) (hg : B ≤ g) : Below B w w' := ⟨h.os, h.tape, h.output, h.size, fun k hk => h.block k (by omega) (by omega)⟩
theorem U1.drewN {a b : World} {g : Nat} (h : U1 a b g) (n : Nat) : U1 a (b.drewN n) g := ⟨h.os, h.tape, h.output, h.size, h.block⟩
theorem U1.drew {a b : World} {g : Nat} (h : U1 a b g) : U1 a b.drew g := ⟨h.os, h.tape, h.output, h.size, h.block⟩
theorem U1.row {w : World} {g : Nat} (cs : Array Value) : U1 w (w.setRow g cs) g := ⟨rfl, rfl, rfl, by simp [World.setRow], fun k _ hn => heapRow_other w g k cs hn⟩
/-- cells laid over those of a block, the block known whole -/
theorem heap_setCells {g : Nat} {t : TypeId} {fr : Nat × Nat} : ∀ (vs : List Value) (o : Nat) (w : World) (cur : List Value), w.heap[g]? = some (.cells cur.toArray t fr) → o + vs.length ≤ cur.length →
    (w.setCells g o vs).heap[g]? = some (.cells (splice cur o vs).toArray t fr)
  | [], o, w, cur, h, _ => by simpa [World.setCells, splice] using h
  | v :: r, o, w, cur, h, hl => by
    simp only [List.length_cons] at hl
    rw [World.setCells]
    have h1 := heapCell_same h o v
    rw [List.setIfInBounds_toArray] at h1
    rw [heap_setCells r (o + 1) _ (cur.set o v) h1 (by simp; omega)]
    congr 2
    unfold splice
    rw [List.take_set, List.take_succ_eq_append_getElem (by omega)]
    simp only [List.length_cons]
    rw [List.set_append_right _ _ (by simp; omega), List.drop_set_of_lt (by omega)]
    have e : o - (cur.take o).length = 0 := by simp; omega
    rw [e, show o + 1 + r.length = o + (r.length + 1) from by omega]
    simp
theorem U1.cells {w : World} {g : Nat} : ∀ (vs : List Value) (o : Nat) (w' : World), U1 w w' g → U1 w (w'.setCells g o vs) g
  | [], _, _, h => h
  | v :: r, o, _, h => U1.cells r (o + 1) _ (h.set o v)
theorem bCellsLen (l : List UInt8) : (Lib.byteCells l).length = l.length := by simp [Lib.byteCells]
theorem bCellsAt (l : List UInt8) (j : Nat) (hj : j < l.length) : (Lib.byteCells l)[j]? = some (.int .u8 (l[j].toNat : Int)) := by simp [Lib.byteCells, hj]
theorem bCellsOne (l : List UInt8) : ∀ v ∈ Lib.byteCells l, v.oneCell' = true := by
  intro v hv
  simp only [Lib.byteCells, List.mem_map] at hv
  obtain ⟨x, _, rfl⟩ := hv
  rfl
theorem splice_len {α : Type} (L : List α) (off : Nat) (cs : List α) (h : off + cs.length ≤ L.length) : (splice L off cs).length = L.length := length_splice L off cs h
theorem splice_take {α : Type} (L : List α) (off : Nat) (cs : List α) (h : off + cs.length ≤ L.length) : (splice L off cs).take (off + cs.length) = L.take off ++ cs := by
  unfold splice
  rw [← List.append_assoc, List.take_append_of_le_length (by simp; omega)]
  exact List.take_of_length_le (by simp; omega)
theorem bytesUnd : Try.prog.underlying 22 = some (.slice (Try.prog.elem 22)) := by kernel_rfl
theorem bytesSize (W : World) : (sizeOf (Try.prog.elem 22)).run Try.prog W = .ok 1 W := by
  have h : (Try.prog.info? (Try.prog.elem 22)).map (·.size) = some 1 := by kernel_rfl
  cases hq : Try.prog.info? (Try.prog.elem 22) with
  | none => simp [hq] at h
  | some i => simp [sizeOf, typeInfo, hq] at h ⊢; exact h
theorem infoU8 : (Try.prog.info? 5).map (fun i => (i.zero, i.size, i.bytes)) = some (some (.int .u8 0), 1, 1) := by kernel_rfl
/-- a row of bytes, new since w -/
structure BR (w u : World) (g cap : Nat) (bs : List UInt8) : Prop where
  row : ∃ cur fr, u.heap[g]? = some (.cells cur 5 fr) ∧ cur.size = cap ∧ cur.toList.take bs.length = Lib.byteCells bs ∧ ∀ j, j < cap → u.frozen? ⟨g, j, none⟩ = false
  ge : w.heap.size ≤ g
  le : bs.length ≤ cap
  max : cap ≤ maxLen
  bel : Below w.heap.size w u
theorem BR.lt {w u : World} {g cap : Nat} {bs : List UInt8} (h : BR w u g cap bs) : g < u.heap.size := by
  obtain ⟨cur, fr, h1, _⟩ := h.row
  exact (Array.getElem?_eq_some_iff.1 h1).1
theorem BR.cell {w u : World} {g cap : Nat} {bs : List UInt8} (h : BR w u g cap bs) (j : Nat) (hj : j < bs.length) : u.cell? ⟨g, j, none⟩ = some (.int .u8 (bs[j].toNat : Int)) := by
  obtain ⟨cur, fr, h1, h2, h3, _⟩ := h.row
  have h4 : (cur.toList.take bs.length)[j]? = some (.int .u8 (bs[j].toNat : Int)) := by rw [h3, bCellsAt bs j hj]
  rw [List.getElem?_take_of_lt hj, Array.getElem?_toList] at h4
  simp only [World.cell?, h1]
  exact h4
theorem frozen_of_block {u u' : World} {g j : Nat} (e : u'.heap[g]? = u.heap[g]?) : u'.frozen? ⟨g, j, none⟩ = u.frozen? ⟨g, j, none⟩ := by simp [World.frozen?, e]
theorem BR.keep {w u u' : World} {g cap : Nat} {bs : List UInt8} (h : BR w u g cap bs) (e : u'.heap[g]? = u.heap[g]?) (hb : Below w.heap.size w u') : BR w u' g cap bs := by
  obtain ⟨cur, fr, h1, h2, h3, h4⟩ := h.row
  exact ⟨⟨cur, fr, e.trans h1, h2, h3, fun j hj => (frozen_of_block e).trans (h4 j hj)⟩, h.ge, h.le, h.max, hb⟩
theorem BR.below {w u u' : World} {g cap : Nat} {bs : List UInt8} (h : BR w u g cap bs) (hb : Below u.heap.size u u') : BR w u' g cap bs := h.keep (hb.block g h.lt) (h.bel.trans (hb.mono h.bel.size))
theorem BR.alloc {w u : World} {g cap : Nat} {bs : List UInt8} (h : BR w u g cap bs) (o : Obj) : BR w (u.alloc o) g cap bs := h.below ((Below.refl _ _).alloc (Nat.le_refl _) _)
theorem BR.own {w u u' : World} {v : Value} {n : Nat} {bs : List UInt8} (h : u'.ownsRow u.heap.size 5 1 v n (Lib.byteCells bs)) (hn : n = bs.length) (h0 : 0 < bs.length) (hw : w.heap.size ≤ u.heap.size) (hb : Below w.heap.size w u') : ∃ g cap, v = .slice (some ⟨g, 0, none⟩) bs.length cap ∧ u.heap.size ≤ g ∧ BR w u' g cap bs := by
  subst hn
  rcases h.2 with ⟨_, h1⟩ | ⟨g, cap, cur, hv, hge, hg, hn, hm, hs, ht⟩
  · omega
  · refine ⟨g, cap, hv, hge, ⟨cur, (0, 0), hg, by omega, by simpa using ht, fun j _ => by simp [World.frozen?, hg]⟩, by omega, hn, hm, hb⟩
theorem BR.append {w u : World} {g cap : Nat} {bs : List UInt8} (h : BR w u g cap bs) (ty : TypeId) (ad : Addr) (c m : Nat) (q : List UInt8) (hm : m = q.length) (h0 : 0 < q.length)
    (hsrc : ∀ (j : Nat) (hj : j < q.length), u.cell? (ad.add j) = some (.int .u8 (q[j].toNat : Int))) (hby : bs.length + q.length ≤ 140737488355328) :
    ∃ g' cap' u', (Builtin.append_ #[22, 22] ty #[.slice (some ⟨g, 0, none⟩) bs.length cap, .slice (some ad) m c]).run Try.prog u = .ok (.slice (some ⟨g', 0, none⟩) (bs.length + q.length) cap') u' ∧ BR w u' g' cap' (bs ++ q) ∧ U1 u u' g ∧ (g' = g ∨ u.heap.size ≤ g') := by
  subst hm
  obtain ⟨i0, hi, hz0, hz1, hz2⟩ := info_parts infoU8
  have hnews : ∀ j x, (Lib.byteCells q)[j]? = some x → u.cell? (ad.add j) = some x := by
    intro j x hx
    have hj : j < q.length := by have := (List.getElem?_eq_some_iff.1 hx).1; rwa [bCellsLen] at this
    rw [bCellsAt q j hj] at hx
    rw [hsrc j hj, hx]
  obtain ⟨cur, fr, h1, h2, h3, h4⟩ := h.row
  have hle := h.le
  by_cases hroom : bs.length + q.length ≤ cap
  · have hr := run_append_room_cells (P := Try.prog) u 22 ty 5 i0 Try.underlying22 hi g 0 bs.length cap ad q.length c (Lib.byteCells q) (by rw [bCellsLen, hz1, Nat.mul_one]) hnews (bCellsOne q) hroom
      (fun j hj => by
        rw [bCellsLen] at hj
        have : bs.length + j < cur.size := by omega
        simp [World.cell?, h1, hz1, this]) (fun j hj => by rw [bCellsLen] at hj; rw [hz1]; simpa using h4 (bs.length + j) (by omega))
    rw [hz1, Nat.mul_one, Nat.zero_add] at hr
    have hcl0 : cur.toList.length = cap := (Array.length_toList).trans h2
    have hcl : bs.length + (Lib.byteCells q).length ≤ cur.toList.length := by rw [bCellsLen, hcl0]; exact hroom
    have h1' : u.heap[g]? = some (.cells cur.toList.toArray 5 fr) := by simpa using h1
    have hrow := heap_setCells (Lib.byteCells q) bs.length u cur.toList h1' hcl
    have hu : U1 u (u.setCells g bs.length (Lib.byteCells q)) g := U1.cells _ _ _ (U1.refl _ _)
    refine ⟨g, cap, _, hr, ⟨⟨_, fr, hrow, ?_, ?_, ?_⟩, h.ge, by simpa using hroom, h.max, h.bel.trans (hu.toBelow h.bel.size h.ge)⟩, hu, .inl rfl⟩
    · rw [List.size_toArray, splice_len _ _ _ hcl, hcl0]
    · have ht := splice_take cur.toList bs.length (Lib.byteCells q) hcl
      rw [bCellsLen] at ht
      rw [List.length_append, ht, h3]
      simp [Lib.byteCells]
    · intro j hj
      rw [World.frozen?_setCells]
      exact h4 j hj
  · obtain ⟨v', u', hr, ho, hgr⟩ := run_append_arg_grows (P := Try.prog) u 22 ty 5 i0 (.int .u8 0) 1 1 Try.underlying22 hi hz0 hz1 hz2 rfl (by decide) ⟨g, 0, none⟩ bs.length cap (Lib.byteCells bs) (by rw [bCellsLen, Nat.mul_one])
      (fun j x hx => by
        have hj : j < bs.length := by have := (List.getElem?_eq_some_iff.1 hx).1; rwa [bCellsLen] at this
        rw [bCellsAt bs j hj] at hx
        rw [Addr.add_mid, Nat.zero_add, h.cell j hj, hx]) ad q.length c (Lib.byteCells q) (by rw [bCellsLen, Nat.mul_one]) hnews (by omega) (by simp only [maxLen]; omega) (by omega)
    obtain ⟨g1, g2, g3, g4, g5⟩ := hgr
    have hbel : Below u.heap.size u u' := ⟨g1, g2, g3, g4, fun k hk => g5 k hk (by simp)⟩
    have ho' : u'.ownsRow u.heap.size 5 1 v' (bs.length + q.length) (Lib.byteCells (bs ++ q)) := by rw [show Lib.byteCells (bs ++ q) = Lib.byteCells bs ++ Lib.byteCells q from by simp [Lib.byteCells]]; exact ho
    obtain ⟨g', cap', rfl, hge, hbr⟩ := BR.own (w := w) ho' (by simp) (by simp; omega) h.bel.size (h.bel.trans (hbel.mono h.bel.size))
    rw [List.length_append] at hr
    exact ⟨g', cap', u', hr, hbr, U1.below' hbel, .inr hge⟩
/-- bytes that lie somewhere -/
def Lies (u : World) (ao : Option Addr) (bs : List UInt8) : Prop := 0 < bs.length → ∃ g o, ao = some ⟨g, o, none⟩ ∧ g < u.heap.size ∧ ∀ (j : Nat) (hj : j < bs.length), u.cell? ⟨g, o + j, none⟩ = some (.int .u8 (bs[j].toNat : Int))
theorem Lies.keep {u u' : World} {ao : Option Addr} {bs : List UInt8} {B : Nat} (h : Lies u ao bs) (hb : Below B u u') (hB : u.heap.size ≤ B) : Lies u' ao bs := fun h0 => by
  obtain ⟨g, o, h1, h2, h3⟩ := h h0
  exact ⟨g, o, h1, by have := hb.size; omega, fun j hj => (hb.cell (p := ⟨g, o + j, none⟩) (by show g < B; omega)).trans (h3 j hj)⟩
theorem Lies.below {u u' : World} {ao : Option Addr} {bs : List UInt8} (h : Lies u ao bs) (hb : Below u.heap.size u u') : Lies u' ao bs := h.keep hb (Nat.le_refl _)
theorem BR.lies {w u : World} {g cap : Nat} {bs : List UInt8} (h : BR w u g cap bs) : Lies u (some ⟨g, 0, none⟩) bs := fun _ => ⟨g, 0, rfl, h.lt, fun j hj => by rw [Nat.zero_add]; exact h.cell j hj⟩
theorem BR.front {w u : World} {g cap : Nat} {bs cs : List UInt8} (h : BR w u g cap (bs ++ cs)) : BR w u g cap bs := by
  obtain ⟨cur, fr, h1, h2, h3, h4⟩ := h.row
  refine ⟨⟨cur, fr, h1, h2, ?_, h4⟩, h.ge, by have := h.le; simp at this; omega, h.max, h.bel⟩
  have := congrArg (List.take bs.length) h3
  rw [List.take_take, Nat.min_eq_left (by simp)] at this
  rw [this]
  simp [Lib.byteCells]
theorem conv_liesE {u : World} {ao : Option Addr} {bs : List UInt8} (h : Lies u ao bs) (n cap : Nat) (hn : n = bs.length) : (convert 22 9 (.slice ao n cap)).run Try.prog u = .ok (.string ⟨bs.toArray⟩) u := by
  subst hn
  by_cases h0 : 0 < bs.length
  · obtain ⟨g, o, rfl, h2, h3⟩ := h h0
    refine run_convert_bytes_back u 22 9 5 ⟨g, o, none⟩ cap bs Try.underlying22 Try.underlying5 Try.underlying9 fun j hj => ?_
    rw [Addr.add_mid]
    exact h3 j hj
  · obtain rfl : bs = [] := List.eq_nil_of_length_eq_zero (by omega)
    cases ao with
    | none => simp [convert, run_underlying Try.underlying22, run_underlying Try.underlying5, run_underlying Try.underlying9, Conv.bytesToString]; rfl
    | some a => exact run_convert_bytes_back u 22 9 5 a cap [] Try.underlying22 Try.underlying5 Try.underlying9 fun j hj => absurd hj (by simp)
theorem append_empty (u : World) (ty : TypeId) (g n cap c : Nat) (ao : Option Addr) (hn : n ≤ cap) : (Builtin.append_ #[22, 22] ty #[.slice (some ⟨g, 0, none⟩) n cap, .slice ao 0 c]).run Try.prog u = .ok (.slice (some ⟨g, 0, none⟩) n cap) u := by
  obtain ⟨i0, hi, hz0, hz1, hz2⟩ := info_parts infoU8
  cases ao with
  | none => simp [Builtin.append_, run_underlying Try.underlying22, sizeOf, typeInfo, hi, Builtin.lenOf, hn, Builtin.firstCells, storeCells]
  | some a => exact run_append_room_cells (P := Try.prog) u 22 ty 5 i0 Try.underlying22 hi g 0 n cap a 0 c [] (by simp) (fun j x hx => by simp at hx) (fun x hx => by simp at hx) hn (fun j hj => absurd hj (Nat.not_lt_zero _)) (fun j hj => absurd hj (Nat.not_lt_zero _))
/-- append of whatever bytes -/
theorem BR.put {w u : World} {g cap : Nat} {bs : List UInt8} (h : BR w u g cap bs) (ty : TypeId) (ao : Option Addr) (c m : Nat) (q : List UInt8) (hm : m = q.length) (hsrc : Lies u ao q) (hby : bs.length + q.length ≤ 140737488355328) :
    ∃ g' cap' u', (Builtin.append_ #[22, 22] ty #[.slice (some ⟨g, 0, none⟩) bs.length cap, .slice ao m c]).run Try.prog u = .ok (.slice (some ⟨g', 0, none⟩) (bs.length + q.length) cap') u' ∧ BR w u' g' cap' (bs ++ q) ∧ U1 u u' g ∧ (g' = g ∨ u.heap.size ≤ g') := by
  by_cases h0 : 0 < q.length
  · obtain ⟨gs, o, rfl, h2, h3⟩ := hsrc h0
    exact h.append ty ⟨gs, o, none⟩ c m q hm h0 (fun j hj => by rw [Addr.add_mid]; exact h3 j hj) hby
  · obtain rfl : q = [] := List.eq_nil_of_length_eq_zero (by omega)
    subst hm
    refine ⟨g, cap, u, append_empty u ty g bs.length cap c ao h.le, by simpa using h, U1.refl _ _, .inl rfl⟩
/-- the marks -/
def mks (k : Nat) : List UInt8 := (List.range k).map fun i => UInt8.ofNat (150 + i)
theorem mks_succ (k : Nat) : mks (k + 1) = mks k ++ [UInt8.ofNat (150 + k)] := by simp [mks, List.range_succ]
theorem mks_length (k : Nat) : (mks k).length = k := by simp [mks]
theorem mks_at (k j : Nat) (hj : j < k) (hk : k ≤ 66) : ((mks k)[j]'(by rw [mks_length]; exact hj)).toNat = 150 + j := by
  simp only [mks, List.getElem_map, List.getElem_range]
  rw [UInt8.toNat_ofNat', Nat.mod_eq_of_lt (by omega)]
theorem BR.nothing (w : World) : BR w (w.alloc (.cells #[] 5)) w.heap.size 0 [] :=
  ⟨⟨#[], (0, 0), heap_alloc_new _ _, rfl, rfl, fun j hj => absurd hj (Nat.not_lt_zero _)⟩, Nat.le_refl _, Nat.le_refl _, by decide, (Below.refl _ _).alloc (Nat.le_refl _) _⟩
theorem cutToI (g o m c : Nat) (i : Nat) (hi : i ≤ c) (W : World) : (Instr.slice 22 (.slice (some ⟨g, o, none⟩) m c) none (some (.int .i64 (i : Int))) none).run Try.prog W = .ok (.slice (some ⟨g, o, none⟩) i c) W := by
  rw [run_slice_h W 22 _ _ _ bytesUnd .i64 i (by omega) (by omega), bytesSize]
  simp only [Result.andThen_ok, sliced, Int.toNat_natCast, Nat.sub_zero, Nat.zero_mul]
  by_cases h0 : c = 0
  · rw [if_pos h0]
  · rw [if_neg h0, Option.map_some, Addr.add_mid, Nat.add_zero]
set_option maxRecDepth 100000 in
set_option maxHeartbeats 1000000 in
theorem lLent (bs : List UInt8) (ao : Option Addr) (cap : Nat) (w : World) (hsrc : Lies w ao bs) (hl : bs.length ≤ 140737488355200) :
    Calls Try.prog 4 #[.slice ao bs.length cap] w fun e w' => ∃ g c, e = .returned (.slice (some ⟨g, 0, none⟩) bs.length c) ∧ BR w w' g c (bs ++ mks 66) := by
  obtain ⟨g1, c1, W1, hrun, hbr, _, _⟩ := (BR.nothing w).put 22 ao cap bs.length bs rfl (hsrc.below ((Below.refl _ _).alloc (Nat.le_refl _) _)) (by simp; omega)
  simp only [List.length_nil, Nat.zero_add, List.nil_append] at hrun hbr
  have HB1 := hide hbr
  have hli : (bs.length : Int) ≤ 140737488355200 := by omega
  clear hbr hsrc
  go_enter Try.func4, Try.ntmps4
  go_wp2_with (at_builtin; refine Lib.wpList_append_run _ rfl (.tmp 5) (.tmp 6) 22 22 rfl _ _ rfl rfl _ _ hrun ?_)
  go_loopw [3, 4] (fun vb vi wr => ∃ (k g c : Nat), k ≤ 66 ∧ vi = .int .i64 k ∧ vb = .slice (some ⟨g, 0, none⟩) (bs.length + k) c ∧ Hid (BR w wr g c (bs ++ mks k))) (fun _ vi _ => 66 - (RowKit.intOf vi).toNat)
  case atStart => exact ⟨0, g1, c1, Nat.zero_le _, rfl, rfl, by simpa [mks] using HB1⟩
  case round =>
    clear HB1 hrun
    obtain ⟨k, g, c, hk, rfl, rfl, HI⟩ := hrel
    by_cases hlt : k < 66
    · have hki : (k : Int) < 66 := by omega
      have hblen : (bs ++ mks k).length = bs.length + k := by rw [List.length_append, mks_length]
      obtain ⟨x, hx⟩ : ∃ x, x = UInt8.ofNat (150 + k) := ⟨_, rfl⟩
      have hxn : (x.toNat : Int) = 150 + (k : Int) := by rw [hx, UInt8.toNat_ofNat', Nat.mod_eq_of_lt (by omega)]; omega
      obtain ⟨g', c', W5, hrun, hbr, hu1, hor⟩ := ((unhide HI).alloc (.cells #[.int .u8 (x.toNat : Int)] 5)).append 22 ⟨wr.heap.size, 0, none⟩ 1 1 [x] rfl (by simp) (fun j hj => by
        obtain rfl : j = 0 := by simpa using hj
        simp [Addr.add]) (by rw [hblen]; simp; omega)
      rw [hblen, hxn] at hrun
      have HN : Hid (BR w W5 g' c' (bs ++ mks (k + 1))) := by rw [mks_succ, ← hx, ← List.append_assoc]; exact hbr
      clear hbr hu1 hor HI hblen hx hxn
      go_wp2_with (at_builtin; refine Lib.wpList_append_run _ rfl (.tmp 12) (.tmp 16) 22 22 rfl _ _ rfl rfl _ _ hrun ?_)
      go_roundw
      case rel => exact ⟨k + 1, g', c', by omega, by go_num, rfl, hide (unhide HN)⟩
      case measure => simp [RowKit.intOf]; omega
    · have hkk : k = 66 := by omega
      subst hkk
      have hct := cutToI g 0 (bs.length + 66) c bs.length (by have := (unhide HI).le; rw [List.length_append] at this; omega)
      go_wp2
      go_ret
      exact ⟨g, c, rfl, unhide HI⟩
set_option maxRecDepth 100000 in
set_option maxHeartbeats 1000000 in
theorem lKept (bs : List UInt8) (g c : Nat) (ao : Option Addr) (cap : Nat) (w u : World) (hb : BR w u g c (bs ++ mks 66)) (hsrc : Lies u ao bs) (hl : bs.length ≤ 140737488355200) :
    Calls Try.prog 9 #[.slice (some ⟨g, 0, none⟩) bs.length c, .slice ao bs.length cap] u fun e w' => e = .returned (.bool true) ∧ w' = u := by
  have hc1 := conv_liesE hb.front.lies bs.length c rfl
  have hc2 := conv_liesE hsrc bs.length cap rfl
  have hle : bs.length + 66 ≤ c := by have := hb.le; rw [List.length_append, mks_length] at this; exact this
  have hct := cutToI g 0 bs.length c (bs.length + 66) hle
  rw [show ((bs.length + 66 : Nat) : Int) = (bs.length : Int) + 66 from by omega] at hct
  have HCE : Hid (∀ k, k < 66 → u.cell? ⟨g, bs.length + k, none⟩ = some (.int .u8 (150 + (k : Int)))) := by
    intro k hk
    have hlen : (bs ++ mks 66).length = bs.length + 66 := by rw [List.length_append, mks_length]
    rw [hb.cell (bs.length + k) (by omega), List.getElem_append_right (by omega)]
    have := mks_at 66 k hk (Nat.le_refl _)
    simp only [Nat.add_sub_cancel_left]
    rw [this]
    congr 2
  have hli : (bs.length : Int) ≤ 140737488355200 := by omega
  clear hb hsrc hle
  generalize (⟨bs.toArray⟩ : ByteArray) = S at *
  go_enter Try.func9, Try.ntmps9
  go_wp2
  clear hc1 hc2 hct
  go_loop [6] (fun vi => ∃ k : Nat, k ≤ 66 ∧ vi = .int .i64 k) (fun vi => 66 - (RowKit.intOf vi).toNat)
  case atStart => exact ⟨0, Nat.zero_le _, rfl⟩
  case round =>
    obtain ⟨k, hk, rfl⟩ := hrel
    by_cases hlt : k < 66
    · have hki : (k : Int) < 66 := by omega
      have hce := unhide HCE k hlt
      obtain ⟨j, hj⟩ : ∃ j, j = bs.length + k := ⟨_, rfl⟩
      rw [← hj] at hce
      have hji : (bs.length : Int) + (k : Int) = (j : Int) := by omega
      have hjl : (j : Int) < (bs.length : Int) + 66 := by omega
      have hjl2 : j < bs.length + 66 := by omega
      clear hj
      go_wp2
      go_round
      case rel => exact ⟨k + 1, by omega, by go_num⟩
      case measure => simp [RowKit.intOf]; omega
    · go_wp2
      go_ret
      exact ⟨rfl, rfl⟩
end
section
open Go.RowKit Go.Lib
section
variable {w u u' : World} {R A Q : Nat} {T : ByteArray} {pos pos' : Nat} {e e' : Int} {cs : Array Value}
end
theorem fixS_at (T : ByteArray) (p n : Nat) (h0 : 1 ≤ n) (h8 : n ≤ 8) (hs : p + n ≤ T.size) : fixS T p 0 (n : Int) = (numB (T.extract p (p + n)).data.toList, p + n, 0) := by
  rw [fixS, if_neg (by omega), rawS, if_neg (by simp), if_neg (by omega), if_neg (by omega)]
  simp
end
section
open Go.RowKit Go.Lib
theorem getD_at (a : List UInt8) (i : Nat) (h : i < a.length) : a.getD i 0 = a[i] := by simp [List.getD, h]
theorem eqItems_img {P : Program} (w : World) (d : Nat) {e : TypeId} {k' : IntKind} (hu : P.underlying e = some (.int k')) (a b : List UInt8) : ∀ (is : List Nat), (∀ i ∈ is, i < a.length ∧ i < b.length) →
    (Op.eqItems (d + 1) e 1 (img a) (img b) is).run P w = .ok (is.all fun i => a.getD i 0 == b.getD i 0) w
  | [], _ => by simp [Op.eqItems]
  | i :: is, h => by
    obtain ⟨h1, h2⟩ := h i (by simp)
    have hx := img_at a i h1
    have hy := img_at b i h2
    have hp : (part e (img a) (i * 1)).run P w = .ok (.int .u8 (a[i].toNat : Int)) w := by simp [part, isAgg, run_underlying hu, hx]
    have hq : (part e (img b) (i * 1)).run P w = .ok (.int .u8 (b[i].toNat : Int)) w := by simp [part, isAgg, run_underlying hu, hy]
    simp only [Op.eqItems, Sem.run_bind, hp, hq, Result.andThen_ok, run_equalIn_int w d e .u8 k' _ _ hu]
    have ih := eqItems_img w d hu a b is (fun j hj => h j (by simp [hj]))
    rw [List.all_cons, getD_at a i h1, getD_at b i h2]
    by_cases hxy : a[i] = b[i]
    · rw [hxy, beq_self_eq_true, beq_self_eq_true, Bool.true_and]
      exact ih
    · have e1 : ((a[i].toNat : Int) == (b[i].toNat : Int)) = false := by
        rw [beq_eq_false_iff_ne]
        intro h3
        exact hxy (UInt8.toNat.inj (by omega))
      have e2 : (a[i] == b[i]) = false := by rw [beq_eq_false_iff_ne]; exact hxy
      rw [e1, e2, Bool.false_and]
      rfl
theorem img_eq_iff (a b : List UInt8) (ha : a.length = 1024) (hb : b.length = 1024) : ((List.range 1024).all fun i => a.getD i 0 == b.getD i 0) = decide (a = b) := by
  by_cases h : a = b
  · subst h; simp
  · rw [decide_eq_false h]
    cases hq : ((List.range 1024).all fun i => a.getD i 0 == b.getD i 0) with
    | false => rfl
    | true =>
      exfalso
      apply h
      rw [List.all_eq_true] at hq
      refine List.ext_getElem (by omega) fun i h1 h2 => ?_
      have := eq_of_beq (hq i (List.mem_range.2 (by omega)))
      rwa [getD_at a i h1, getD_at b i h2] at this
theorem eqImg (a b : List UInt8) (ha : a.length = 1024) (hb : b.length = 1024) (w : World) : (Op.equalIn 10000 34 (.agg (img a)) (.agg (img b))).run Try.prog w = .ok (decide (a = b)) w := by
  have hi : (Try.prog.info? 5).map (·.size) = some 1 := by kernel_rfl
  cases hq : Try.prog.info? 5 with
  | none => simp [hq] at hi
  | some i =>
    have hs : i.size = 1 := by simpa [hq] using hi
    have hc : Try.prog.cellsOf 5 = 1 := by simp [Program.cellsOf, hq, hs]
    rw [show 10000 = 9998 + 1 + 1 from rfl, run_equalIn_array w _ (img a) (img b) Try.underlying34 hq, hc, ← img_eq_iff a b ha hb]
    exact eqItems_img w _ Try.underlying5 a b _ fun j hj => ⟨by have := List.mem_range.1 hj; omega, by have := List.mem_range.1 hj; omega⟩
theorem run_toArr (ad : Addr) (cap : Nat) (w : World) : (Instr.arrayAt 34 (.slice (some ad) 1024 cap)).run Try.prog w = .ok (.pointer (some ad)) w := by
  simp [Instr.arrayAt, run_underlying Try.underlying34]
end
section
open Go.RowKit Go.Lib
theorem zeroVal (w : World) : (zeroValue 34).run Try.prog w = .ok (.agg (img (zeros 1024))) w := by
  have h : (Try.prog.info? 34).bind (·.zero) = some (.agg (img (zeros 1024))) := by kernel_rfl
  cases hq : Try.prog.info? 34 with
  | none => simp [hq] at h
  | some i => rw [hq] at h; simp only [Option.bind] at h; simp [zeroValue, typeInfo, hq, h]
end
section
open Go.RowKit Go.Lib
theorem ext_list (l : List UInt8) (a b : Nat) : ((⟨l.toArray⟩ : ByteArray).extract a b).data.toList = (l.take b).drop a := by
  rw [ByteArray.data_extract]
  simp [List.extract, List.drop_take]
section
end
end
section
open Go.RowKit Go.Lib
/-- bytes that lie somewhere -/
def LiesB (u : World) (ao : Option Addr) (l : List UInt8) : Prop := 0 < l.length → ∃ g o, ao = some ⟨g, o, none⟩ ∧ g < u.heap.size ∧ ∀ (j : Nat) (hj : j < l.length), u.cell? ⟨g, o + j, none⟩ = some (.int .u8 (l[j].toNat : Int))
theorem LiesB.keep {u u' : World} {ao : Option Addr} {l : List UInt8} {B : Nat} (h : LiesB u ao l) (hb : Below B u u') (hB : u.heap.size ≤ B) : LiesB u' ao l := fun h0 => by
  obtain ⟨g, o, h1, h2, h3⟩ := h h0
  exact ⟨g, o, h1, by have := hb.size; omega, fun j hj => (hb.cell (p := ⟨g, o + j, none⟩) (by show g < B; omega)).trans (h3 j hj)⟩
theorem LiesB.range {u : World} {g o : Nat} {l : List UInt8} (h3 : ∀ (j : Nat) (hj : j < l.length), u.cell? ⟨g, o + j, none⟩ = some (.int .u8 (l[j].toNat : Int))) : u.rangeAt g o (img l).toList := fun j v hv => by
  have hj : j < l.length := by
    have := (List.getElem?_eq_some_iff.1 hv).1
    rwa [Array.length_toList, img_size] at this
  rw [h3 j hj]
  rw [Array.getElem?_toList, img_at l j hj] at hv
  exact hv
end
section
open Go.RowKit
theorem BR.set {w u : World} {g cap : Nat} {bs : List UInt8} (h : BR w u g cap bs) (k : Nat) (y : UInt8) : BR w (u.setCell ⟨g, k, none⟩ (.int .u8 (y.toNat : Int))) g cap (bs.set k y) := by
  obtain ⟨cur, fr, h1, h2, h3, h4⟩ := h.row
  refine ⟨⟨cur.setIfInBounds k (.int .u8 (y.toNat : Int)), fr, heapCell_same h1 _ _, by simpa using h2, ?_, fun j hj => ?_⟩, h.ge, by simpa using h.le, h.max, ?_⟩
  · rw [List.length_set, Array.toList_setIfInBounds, List.take_set, h3]
    simp [Lib.byteCells, List.map_set]
  · have := h4 j hj
    simp only [World.frozen?, h1] at this
    simp only [World.frozen?, heapCell_same h1 k (.int .u8 (y.toNat : Int))]
    exact this
  · exact h.bel.trans ⟨rfl, rfl, rfl, by simp [World.setCell], fun q hq => Deep.blk_setCell_other u ⟨g, k, none⟩ _ q (fun e => by have h5 : q = g := e; have := h.ge; omega)⟩
theorem BR.liesB {w u : World} {g cap : Nat} {bs : List UInt8} (h : BR w u g cap bs) : LiesB u (some ⟨g, 0, none⟩) bs := h.lies
end
section
open Go.RowKit Go.Lib
set_option maxRecDepth 100000 in
theorem mNumber (t : ByteArray) (ht : t.size ≤ 8) (w : World) : Calls Try.prog 10 #[.string t] w fun e w' => e = .returned (.int .u64 (numB t.data.toList : Int)) ∧ w' = w := by
  go_enter Try.func10, Try.ntmps10
  go_wp2
  go_loop [3, 4] (fun v i => ∃ k : Nat, k ≤ t.size ∧ i = .int .i64 k ∧ v = .int .u64 (numB (t.data.toList.take k))) (fun _ i => t.size - (RowKit.intOf i).toNat)
  case atStart => exact ⟨0, Nat.zero_le _, rfl, rfl⟩
  case round =>
    obtain ⟨k, hk, rfl, rfl⟩ := hrel
    have hb := numB_lt (t.data.toList.take k)
    by_cases hlt : k < t.size
    · have hts := take_snoc t k hlt
      have hsn := numB_snoc (t.data.toList.take k) t[k]
      have HS : Hid (numB (t.data.toList.take (k + 1)) = numB (t.data.toList.take k) * 256 + t[k].toNat) := by rw [hts]; exact hsn
      have hlk : numB (t.data.toList.take k) < 72057594037927936 := by
        rw [List.length_take, size_toList, Nat.min_eq_left (by omega)] at hb
        have : 256 ^ k ≤ 256 ^ 7 := Nat.pow_le_pow_right (by decide) (by omega)
        omega
      have hby := t[k].toNat_lt
      clear hts hsn hb
      generalize hv : numB (t.data.toList.take k) = v at *
      have HV := hide hv
      clear hv
      go_wp2
      go_round
      case rel => exact ⟨k + 1, by omega, by go_num, by rw [unhide HS]; push_cast; go_num⟩
      case measure => simp [RowKit.intOf]; omega
    · have hkk : k = t.size := by omega
      have e : numB (t.data.toList.take k) = numB t.data.toList := by rw [List.take_of_length_le (by rw [size_toList]; omega)]
      have E := hide e
      clear e hb hkk
      go_wp2
      go_ret
      rw [unhide E]
      exact ⟨rfl, rfl⟩
theorem toListNe {a b : ByteArray} (h : ¬ a = b) : ¬ a.toList = b.toList := fun e => h (by
  rw [ByteArray.toList_eq, ByteArray.toList_eq] at e
  cases a; cases b
  simp only at e
  congr 1
  exact Array.toList_inj.1 e)
theorem mBlank (l : List UInt8) (w : World) : Calls Try.prog 8 #[.string ⟨l.toArray⟩] w fun e w' => e = .returned (.bool (decide (l = zeros 1024))) ∧ Below w.heap.size w w' := by
  have HN := hide (mNoughts 1024 (Nat.le_refl _) w)
  have inj : ((⟨l.toArray⟩ : ByteArray) = ⟨(zeros 1024).toArray⟩) ↔ l = zeros 1024 := by simp
  by_cases h : l = zeros 1024
  · rw [decide_eq_true h]
    have h2 := inj.2 h
    rw [h2]
    clear h h2 inj
    generalize (⟨(zeros 1024).toArray⟩ : ByteArray) = Z at *
    go_enter Try.func8, Try.ntmps8
    go_wp2_with fail
    refine (unhide HN).mono ?_
    rintro e w1 ⟨rfl, hb⟩
    have HB := hide hb
    clear hb
    go_wp2
    go_ret
    exact ⟨rfl, unhide HB⟩
  · rw [decide_eq_false h]
    have h2 : ¬ (⟨l.toArray⟩ : ByteArray) = ⟨(zeros 1024).toArray⟩ := fun e => h (inj.1 e)
    clear h inj
    generalize (⟨(zeros 1024).toArray⟩ : ByteArray) = Z at *
    generalize (⟨l.toArray⟩ : ByteArray) = T at *
    go_enter Try.func8, Try.ntmps8
    go_wp2_with fail
    refine (unhide HN).mono ?_
    rintro e w1 ⟨rfl, hb⟩
    have HB := hide hb
    clear hb
    go_wp2
    go_ret
    exact ⟨congrArg (fun b => Ending.returned (Value.bool b)) (beq_eq_false_iff_ne.2 (toListNe h2)), unhide HB⟩
end
section
open Go.RowKit Go.Lib
theorem pNumber (l : List UInt8) (hl : l.length = 8) (g o cap : Nat) (w : World) (hc : ∀ (j : Nat) (hj : j < l.length), w.cell? ⟨g, o + j, none⟩ = some (.int .u8 (l[j].toNat : Int))) :
    Calls Try.prog 11 #[.slice (some ⟨g, o, none⟩) 8 cap] w fun e w' => e = .returned (.int .u64 (numB l : Int)) ∧ Below w.heap.size w w' := by
  have hcv : (convert 22 9 (.slice (some ⟨g, o, none⟩) 8 cap)).run Try.prog w = .ok (.string ⟨l.toArray⟩) w := by
    have := run_convert_bytes_back w 22 9 5 ⟨g, o, none⟩ cap l Try.underlying22 Try.underlying5 Try.underlying9 fun j hj => by rw [Addr.add_mid]; exact hc j hj
    rw [hl] at this
    exact this
  have hTs : (⟨l.toArray⟩ : ByteArray).size = 8 := by rw [← size_toList]; exact hl
  have HR : Hid (Rd (w.alloc (.cells #[.string ⟨l.toArray⟩, .int .i64 0, .int .i64 0] 41)) w.heap.size ⟨l.toArray⟩ 0 0) := Rd.new _ w 41 (by rw [hTs]; decide)
  have HF : Hid (Calls Try.prog 14 #[.pointer (some ⟨w.heap.size, 0, none⟩), .int .i64 8] (w.alloc (.cells #[.string ⟨l.toArray⟩, .int .i64 0, .int .i64 0] 41)) fun e w' => e = .returned (.int .u64 (numB l : Int)) ∧ Below w.heap.size w w') := by
    have h := rFixed w.heap.size ⟨l.toArray⟩ 0 0 8 _ (unhide HR)
    rw [show fixS ⟨l.toArray⟩ 0 0 8 = _ from fixS_at _ 0 8 (by decide) (by decide) (by omega)] at h
    refine h.mono ?_
    rintro e w' ⟨rfl, hr⟩
    have e1 : ((⟨l.toArray⟩ : ByteArray).extract 0 (0 + 8)).data.toList = l := by
      rw [ext_list, List.drop_zero, List.take_of_length_le (by omega)]
    refine ⟨by rw [e1], ?_⟩
    have hb := (Below.refl w.heap.size w).alloc (Nat.le_refl _) (.cells #[.string ⟨l.toArray⟩, .int .i64 0, .int .i64 0] 41)
    exact hb.trans (hr.2.below hb.size (Nat.le_refl _) (Nat.le_refl _))
  generalize (⟨l.toArray⟩ : ByteArray) = T at *
  clear hc hTs HR hl
  go_enter Try.func11, Try.ntmps11
  go_wp2_with fail
  refine (rNew T _).mono ?_
  rintro e w1 ⟨rfl, hw⟩
  obtain rfl := hw.symm
  clear hw
  go_wp2_with fail
  refine (unhide HF).mono ?_
  rintro e w2 ⟨rfl, hb⟩
  have HB := hide hb
  clear hb
  go_wp2
  go_ret
  exact ⟨rfl, unhide HB⟩
/-- head and tail of a page's bytes -/
def hd8 (l : List UInt8) : Nat := numB (l.take 8)
def tl8 (l : List UInt8) : Nat := numB (l.drop 1016)
set_option maxRecDepth 100000 in
theorem pEnds (l : List UInt8) (hl : l.length = 1024) (g o cap : Nat) (hcap : 1024 ≤ cap) (hc63 : cap ≤ 9223372036854775807) (w : World) (hg : g < w.heap.size) (hc : ∀ (j : Nat) (hj : j < l.length), w.cell? ⟨g, o + j, none⟩ = some (.int .u8 (l[j].toNat : Int))) :
    Calls Try.prog 6 #[.slice (some ⟨g, o, none⟩) 1024 cap] w fun e w' => e = .returned (.tuple #[.int .u64 (hd8 l : Int), .int .u64 (tl8 l : Int), .bool true]) ∧ Below w.heap.size w w' := by
  have HN1 : Hid (∀ u, Below w.heap.size w u → Calls Try.prog 11 #[.slice (some ⟨g, o, none⟩) 8 cap] u fun e w' => e = .returned (.int .u64 (hd8 l : Int)) ∧ Below u.heap.size u w') := fun u hu =>
    pNumber (l.take 8) (by rw [List.length_take]; omega) g o cap u fun j hj => by
      have hj2 : j < l.length := by rw [List.length_take] at hj; omega
      rw [hu.cell (p := ⟨g, o + j, none⟩) hg, hc j hj2, List.getElem_take]
  have HN2 : Hid (∀ u, Below w.heap.size w u → Calls Try.prog 11 #[.slice (some ⟨g, o + 1016, none⟩) 8 (cap - 1016)] u fun e w' => e = .returned (.int .u64 (tl8 l : Int)) ∧ Below u.heap.size u w') := fun u hu =>
    pNumber (l.drop 1016) (by rw [List.length_drop]; omega) g (o + 1016) (cap - 1016) u fun j hj => by
      have hj2 : 1016 + j < l.length := by rw [List.length_drop] at hj; omega
      rw [Nat.add_assoc, hu.cell (p := ⟨g, o + (1016 + j), none⟩) hg, hc (1016 + j) hj2, List.getElem_drop]
  generalize hd8 l = h8 at *
  generalize tl8 l = t8 at *
  have h1i : (8 : Int) ≤ (cap : Int) := by omega
  have h2i : (1024 : Int) ≤ (cap : Int) := by omega
  have HC := hide (And.intro hcap hc63)
  clear hc hl hg hcap hc63
  go_enter Try.func6, Try.ntmps6
  go_wp2
  go_region_held3 (fun _ => True) (exact trivial) (first
    | (go_at_call_of 11 (Value.slice (some ⟨g, o, none⟩) 8 cap); refine (unhide HN1 _ ?_).mono ?_; exact (show Below w.heap.size w w.drew from ⟨rfl, rfl, rfl, Nat.le_refl _, fun _ _ => rfl⟩); rintro e w5 ⟨rfl, hb5⟩; have HB5 := hide (show Below w.heap.size w w5 from ⟨hb5.os, hb5.tape, hb5.output, hb5.size, hb5.block⟩); clear hb5)
    | (go_at_call 11; refine (unhide HN2 _ (unhide HB5)).mono ?_; rintro e w6 ⟨rfl, hb6⟩; have HB6 := hide ((unhide HB5).trans (hb6.mono (unhide HB5).size)); clear hb6))
  go_wp2
  refine bodyPost_ret (v := .tuple #[.int .u64 (h8 : Int), .int .u64 (t8 : Int), .bool true]) (by simp [results, Try.f6]) rfl ?_
  exact ⟨rfl, unhide HB6⟩
end
section
open Go.RowKit Go.Lib
theorem wpList_load_on {P : Program} {ops : Array Oper} {rest : List Oper} {op : Oper} {a : Act} {w : World} {Q : Exit → Act → World → Prop} (hwn : Region.wanted op (yielded ops a.tmps) = true) (ty : TypeId) (x : Operand) (ho : op.op = .load ty x)
    (b o : Nat) (hx : a.eval x = .pointer (some ⟨b, o, none⟩)) (cs : List Value) (d : TypeDesc) (hc : w.rangeAt b o cs)
    (hu : P.underlying ty = some d) (hd : d.isRow = true) (hi : (P.info? ty).map (·.size) = some cs.length) (D : Option Tmp) (hD : op.dst = D)
    (h : wpList P ops Q rest (a.put D (.agg cs.toArray)) w) : wpList P ops Q (op :: rest) a w := by
  subst hD
  refine wpList_step fun K hK => ?_
  rw [if_pos hwn]
  exact wp_load_mid ty x ho b o hx cs d hc hu hd hi (hK _ _ h)
set_option maxRecDepth 100000 in
theorem pBlank (l : List UInt8) (hl : l.length = 1024) (g o cap : Nat) (w : World) (hr : w.rangeAt g o (img l).toList) : Calls Try.prog 7 #[.slice (some ⟨g, o, none⟩) 1024 cap] w fun e w' => e = .returned (.bool (decide (l = zeros 1024))) ∧ w' = w := by
  have HIM : Hid ((Try.prog.info? 34).map (·.size) = some (img l).size) := by show _ = _; rw [img_size, hl]; exact imgInfo
  have heq := fun W => eqImg l (zeros 1024) hl (by rw [zeros, List.length_replicate]) W
  have hzv := fun (W : World) => zeroVal W
  have hta := run_toArr ⟨g, o, none⟩ cap
  have HLA := hide hr
  generalize decide (l = zeros 1024) = bb at *
  generalize img l = A at *
  generalize img (zeros 1024) = Z at *
  clear hr hl
  go_enter Try.func7, Try.ntmps7
  go_wp2_with (first
    | (refine wpList_load_on (by rfl) 34 (.tmp 8) (by rfl) g o (by rfl) A.toList _ (unhide HLA) Try.underlying34 (by rfl) (by simpa using unhide HIM) (some 9) (by rfl) ?_; simp only [Act.put, List.setIfInBounds_toArray, List.set_cons_zero, List.set_cons_succ, Array.toArray_toList]))
  go_ret
  exact ⟨rfl, rfl⟩
end
section
open Go.ChangeShapes Go.WideShapes Go.ChangeAt Go.RowKit Go.Deep
section
variable {H : Type} {enc : TypeId × Value → H} {W : World}
theorem cU8 : Try.prog.cellsOf 5 = 1 := by kernel_rfl
theorem choose_list {α : Type} (p : Nat → α → Prop) (n : Nat) (hp : ∀ i, i < n → ∃ x, p i x) : ∃ l : List α, l.length = n ∧ ∀ (j : Nat) (hj : j < l.length), p j l[j] := by
  induction n with
  | zero => exact ⟨[], rfl, by intro j hj; simp at hj⟩
  | succ k ih =>
    obtain ⟨l, hl, hi⟩ := ih (fun i hi => hp i (by omega))
    obtain ⟨x, hx⟩ := hp k (by omega)
    refine ⟨l ++ [x], by simp [hl], fun j hj => ?_⟩
    by_cases hjk : j < l.length
    · rw [List.getElem_append_left hjk]; exact hi j hjk
    · have e : j = k := by simp [hl] at hj; omega
      subst e
      rw [List.getElem_append_right (by omega)]
      simpa [hl] using hx
/-- a slice of bytes -/
theorem open_bytes {base : Nat} {v : Value} {d : DataW H} {ps : List MemPlace} (hval : Value.okWide Try.prog W .any base 22 v) (h : DataW.Trod enc Try.prog W 0 (fun _ => true) true 22 v d ps) :
    ∃ (ao : Option Addr) (bs : List UInt8) (cap : Nat), v = .slice ao bs.length cap ∧ bs.length ≤ cap ∧ LiesB W ao bs ∧ (bs = [] ∨ ∃ el sp, d = .slice el sp ∧ el.length = bs.length) := by
  obtain ⟨a, len, cap, rfl⟩ := okWide_slice Try.underlying22 hval
  obtain ⟨fuel, hf⟩ := h
  rcases open_slice1 Try.underlying22 cU8 hf with ⟨hcs, hx⟩ | ⟨x, l', c', m, n, V, D, Pl, hcs, _, hl, hm, hmm, hx, hel⟩
  · simp [Value.cells] at hcs
    obtain ⟨rfl, rfl, rfl⟩ := hcs
    exact ⟨none, [], 0, rfl, Nat.le_refl _, fun h0 => absurd h0 (by simp), .inl rfl⟩
  · simp [Value.cells] at hcs
    obtain ⟨rfl, rfl, rfl⟩ := hcs
    simp only [Prod.mk.injEq] at hx
    obtain ⟨rfl, -⟩ := hx
    have hmle : len ≤ m := by rw [hmm]; simp; exact hl
    have each : ∀ i, i < len → ∃ y : UInt8, W.cell? (x.add i) = some (.int .u8 (y.toNat : Int)) := by
      intro i hi
      obtain ⟨h1, h2⟩ := hel i (by omega)
      obtain ⟨z, e, _, hw⟩ := DataW.trod_int Try.underlying5 h2
      have hb := bounds_u8 hw
      obtain ⟨k, rfl⟩ := Int.eq_ofNat_of_zero_le hb.1
      simp at e
      refine ⟨UInt8.ofNat k, ?_⟩
      rw [h1, e, UInt8.toNat_ofNat', Nat.mod_eq_of_lt (by omega)]
    obtain ⟨bs, hbl, hbs⟩ := choose_list _ len each
    refine ⟨some x, bs, cap, by rw [hbl], by omega, fun h0 => ?_, .inr ⟨_, _, rfl, by simp [hbl]⟩⟩
    obtain ⟨b, off, spot⟩ := x
    have hs : spot = none := by
      have := World.cell?_spot (hbs 0 h0)
      simpa [Addr.add] using this
    subst hs
    refine ⟨b, off, rfl, ?_, fun j hj => ?_⟩
    · have := World.block_lt_of_cell? W _ (hbs 0 h0)
      rwa [Addr.add_mid] at this
    · have := hbs j hj
      rwa [Addr.add_mid] at this
end
end
end Go.Proofs.Ytkmcjjlkammlaaa
