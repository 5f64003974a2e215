/- Tokens in memory; what only looks: never, Done, Why, One. -/
import Derived.Test.YtajbkgcgmkkpiaaCna
namespace Go.Proofs.Ytajbkgcgmkkpiaa.C
open Go.RowKit Go.Lib Go.MuLone
/-- where the tokens lie, and under which each was made (0: under none) -/
structure Geo where
  tb : Nat → Nat
  kb : Nat → Nat
  lb : Nat → Nat
  ch : Nat → Nat
  up : Nat → Nat
/-- what is known of a token -/
structure Dy where
  why : Int
  abv : Nat
  un : List Nat
  ua : Option Addr
  uc : Nat
  pl : Nat
def KR : S.Rec Try.prog Nat where
  st := 96
  et := 78
  n := 1
  bts := 8
  cs := fun b => [.pointer (some ⟨b, 0, none⟩)]
  hn := by decide
  len := fun _ => rfl
  one := fun a v hv => by
    rcases List.mem_cons.1 hv with rfl | hv
    · rfl
    · cases hv
  und := Try.underlying96
  info := by
    have h : (Try.prog.info? 78).map (fun i => (i.zero.map (·.cells.size), i.size, i.bytes)) = some (some 1, 1, 8) := by kernel_rfl
    cases hq : Try.prog.info? 78 with
    | none => simp [hq] at h
    | some i =>
      simp only [hq, Option.map_some, Option.some.injEq, Prod.mk.injEq] at h
      cases hz : i.zero with
      | none => simp [hz] at h
      | some z => exact ⟨i, z, rfl, hz, by simpa [hz] using h.1, h.2.1, h.2.2⟩
  pos := by decide
def ptO (o : Option Nat) : Value := .pointer (o.map fun b => ⟨b, 0, none⟩)
def abP (G : Geo) : Nat → Value
  | 0 => .pointer none
  | j + 1 => .pointer (some ⟨G.kb j, 0, none⟩)
/-- the cells of what is known of a token -/
def knC (G : Geo) (i : Nat) (d : Dy) : Array Value :=
  #[.pointer (some ⟨G.lb i, 0, none⟩), .chan (some (G.ch i)), .int .u32 (if d.why = 0 then 0 else 1), .int .i32 0, .int .u32 0, .int .i64 d.why, abP G d.abv, .slice d.ua d.un.length d.uc, .int .i64 d.pl]
/-- the tokens in memory, but for their locks -/
structure Fk (B : Nat) (W : World) (G : Geo) (Z : Nat → Dy) (m n : Nat) : Prop where
  le : m ≤ n
  tok : ∀ i, i < m → W.heap[G.tb i]? = some (.cells #[.pointer (some ⟨G.kb i, 0, none⟩)] 89 (0, 0))
  kn : ∀ i, i < n → W.heap[G.kb i]? = some (.cells (knC G i (Z i)) 98 (0, 0))
  chn : ∀ i, i < n → W.heap[G.ch i]? = some (.chan 0 #[] (decide (¬ (Z i).why = 0)) 0 0 false)
  row : ∀ i, i < n → KR.Own W B ((Z i).un.map G.kb) (Z i).ua (Z i).uc
  kinj : ∀ i j, i < n → j < n → G.kb i = G.kb j → i = j
  cinj : ∀ i j, i < n → j < n → G.ch i = G.ch j → i = j
  rinj : ∀ i j, i < n → j < n → ∀ a b, (Z i).ua = some a → (Z j).ua = some b → a.block = b.block → i = j
  lot : ∀ i, i < m → B ≤ G.tb i
  low : ∀ i, i < n → B ≤ G.kb i ∧ B ≤ G.lb i ∧ B ≤ G.ch i
/-- and their locks are free -/
structure Fo (B : Nat) (W : World) (G : Geo) (Z : Nat → Dy) (n : Nat) : Prop where
  fk : Fk B W G Z n n
  lk : ∀ i, i < n → W.heap[G.lb i]? = some (.cells #[.int .i32 0, .int .u32 0] 87 (0, 0))
/-- what is none of theirs lies as it lay -/
structure Fr (B : Nat) (W W' : World) : Prop where
  os : W'.os = W.os
  tape : W'.tape = W.tape
  output : W'.output = W.output
  size : W.heap.size ≤ W'.heap.size
  low : ∀ b, b < B → b < W.heap.size → W'.heap[b]? = W.heap[b]?
  typ : ∀ (b : Nat) (c : Array Value) (t : TypeId) (f : Nat × Nat), W.heap[b]? = some (.cells c t f) → t ≠ 98 → t ≠ 78 → W'.heap[b]? = some (.cells c t f)
  chn : ∀ (b cap : Nat) (buf : Array Value) (cl : Bool) (s r : Nat) (tm : Bool), W.heap[b]? = some (.chan cap buf cl s r tm) → cap ≠ 0 → W'.heap[b]? = some (.chan cap buf cl s r tm)
theorem Fr.refl (B : Nat) (W : World) : Fr B W W := ⟨rfl, rfl, rfl, Nat.le_refl _, fun _ _ _ => rfl, fun _ _ _ _ h _ _ => h, fun _ _ _ _ _ _ _ h _ => h⟩
theorem Fr.trans {B : Nat} {U V W : World} (h : Fr B U V) (k : Fr B V W) : Fr B U W :=
  ⟨k.os.trans h.os, k.tape.trans h.tape, k.output.trans h.output, Nat.le_trans h.size k.size, fun b hb hs => (k.low b hb (Nat.lt_of_lt_of_le hs h.size)).trans (h.low b hb hs), fun b c t f h1 h2 h3 => k.typ b c t f (h.typ b c t f h1 h2 h3) h2 h3, fun b c u l s r m h1 h2 => k.chn b c u l s r m (h.chn b c u l s r m h1 h2) h2⟩
theorem Fr.of {B : Nat} {U W : World} (h : Below U.heap.size U W) : Fr B U W :=
  ⟨h.os, h.tape, h.output, h.size, fun b _ hs => h.block b hs, fun b _ _ _ h1 _ _ => (h.block b (Array.getElem?_eq_some_iff.1 h1).1).trans h1, fun b _ _ _ _ _ _ h1 _ => (h.block b (Array.getElem?_eq_some_iff.1 h1).1).trans h1⟩
theorem Fr.below {B : Nat} {U W : World} (h : Fr B U W) (hB : B ≤ U.heap.size) : Below B U W := ⟨h.os, h.tape, h.output, h.size, fun b hb => h.low b hb (Nat.lt_of_lt_of_le hb hB)⟩
/-- the token of a number; 0: nil -/
def tkP (G : Geo) : Nat → Value
  | 0 => .pointer none
  | j + 1 => .pointer (some ⟨G.tb j, 0, none⟩)
def whyN (Z : Nat → Dy) : Nat → Int
  | 0 => 0
  | j + 1 => (Z j).why
section
variable {B : Nat} {W : World} {G : Geo} {Z : Nat → Dy} {m n : Nat}
theorem Fk.ptk (h : Fk B W G Z m n) {i : Nat} (hi : i < m) : W.cell? ⟨G.tb i, 0, none⟩ = some (.pointer (some ⟨G.kb i, 0, none⟩)) := S.cell_one (h.tok i hi)
theorem Fk.cell (h : Fk B W G Z m n) {i : Nat} (hi : i < n) {j : Nat} {v : Value} (hv : (knC G i (Z i))[j]? = some v) : W.cell? ⟨G.kb i, j, none⟩ = some v := S.arr_cell (h.kn i hi) hv
theorem kNeverNil (w : World) : Calls Try.prog 49 #[.pointer none] w fun e w' => e = .returned (.bool true) ∧ w' = w := by
  go_enter Try.func49, Try.ntmps49
  go_wp2
  go_ret
  exact ⟨rfl, rfl⟩
theorem kNever (h : Fk B W G Z m n) {i : Nat} (hi : i < m) : Calls Try.prog 49 #[.pointer (some ⟨G.tb i, 0, none⟩)] W fun e w' => e = .returned (.bool false) ∧ w' = W := by
  have h0 := h.ptk hi
  clear h
  go_enter Try.func49, Try.ntmps49
  go_wp2
  go_ret
  exact ⟨rfl, rfl⟩
theorem kDoneNil (w : World) : Calls Try.prog 56 #[.pointer none] w fun e w' => e = .returned (.chan none) ∧ w' = w := by
  go_enter Try.func56, Try.ntmps56
  go_wp2_with (go_at_call 49; refine (kNeverNil _).mono ?_; rintro e w' ⟨rfl, hw⟩; obtain rfl := hw.symm)
  go_ret
  exact ⟨rfl, rfl⟩
theorem kDone (h : Fk B W G Z m n) {i : Nat} (hi : i < m) : Calls Try.prog 56 #[.pointer (some ⟨G.tb i, 0, none⟩)] W fun e w' => e = .returned (.chan (some (G.ch i))) ∧ w' = W := by
  have h0 := h.ptk hi
  have h1 : W.cell? ⟨G.kb i, 1, none⟩ = some (.chan (some (G.ch i))) := h.cell (Nat.lt_of_lt_of_le hi h.le) rfl
  have HN := hide (kNever h hi)
  clear h
  go_enter Try.func56, Try.ntmps56
  go_wp2_with (go_at_call 49; refine (unhide HN).mono ?_; rintro e w' ⟨rfl, hw⟩; obtain rfl := hw.symm)
  go_ret
  exact ⟨rfl, rfl⟩
theorem kWhyNil (w : World) : Calls Try.prog 15 #[.pointer none] w fun e w' => e = .returned (.int .i64 0) ∧ w' = w := by
  go_enter_defers Try.func15, Try.ntmps15
  go_wp2_with (go_at_call 49; refine (kNeverNil _).mono ?_; rintro e w' ⟨rfl, hw⟩; obtain rfl := hw.symm)
  exact ⟨_, results_tmp rfl _ _ _, rfl, rfl⟩
theorem kWhy (h : Fo B W G Z n) {i : Nat} (hi : i < n) : Calls Try.prog 15 #[.pointer (some ⟨G.tb i, 0, none⟩)] W fun e w' => e = .returned (.int .i64 (Z i).why) ∧ w' = W := by
  have h0 := h.fk.ptk hi
  have h1 : W.cell? ⟨G.kb i, 0, none⟩ = some (.pointer (some ⟨G.lb i, 0, none⟩)) := h.fk.cell hi rfl
  have h2 : W.cell? ⟨G.kb i, 5, none⟩ = some (.int .i64 (Z i).why) := h.fk.cell hi rfl
  have hl := h.lk i hi
  have HN := hide (kNever h.fk hi)
  have HB := hide (setCell_back (k := 0) hl (.int .i32 1) (.int .i32 0) rfl)
  have hlc : W.cell? ⟨G.lb i, 0, none⟩ = some (.int .i32 0) := (S.box2 hl).1
  have hlf := frz0 hl 0
  have hne : G.kb i ≠ G.lb i := fun e => by
    have := h.fk.kn i hi
    rw [e, hl] at this
    simp [knC] at this
  have h0' : G.tb i ≠ G.lb i := fun e => by
    have := h.fk.tok i hi
    rw [e, hl] at this
    simp at this
  clear h hl
  go_enter_defers Try.func15, Try.ntmps15
  go_wp2_with (first
    | (go_at_call 49; refine (unhide HN).mono ?_; rintro e w' ⟨rfl, hw⟩; obtain rfl := hw.symm; clear HN)
    | (go_at_call 50; refine (lock_free muLib ⟨G.lb i, 0, none⟩ _ hlc hlf).mono ?_; rintro e w' ⟨rfl, rfl⟩))
  refine leaves_cons (f := 51) (args := #[.pointer (some ⟨G.lb i, 0, none⟩)]) (by simp) (by simp [go_sem]) ?_
  refine (unlock_deferred muLib ⟨G.lb i, 0, none⟩ .returning _ ?_ ?_).mono ?_
  · exact World.cell?_setCell_same _ _ _ hlc
  · simp [hlf]
  rintro e u' w'' ⟨rfl, rfl, rfl⟩
  exact ⟨_, results_tmp rfl _ _ _, rfl, unhide HB⟩
theorem kOneNil (k : Nat) (w : World) : Calls Try.prog 19 #[.pointer none, tkP G k] w fun e w' => e = .returned (.bool false) ∧ w' = w := by
  go_enter Try.func19, Try.ntmps19
  go_wp2_with (go_at_call 49; refine (kNeverNil _).mono ?_; rintro e w' ⟨rfl, hw⟩; obtain rfl := hw.symm)
  go_ret
  exact ⟨rfl, rfl⟩
theorem kOneNilR (h : Fk B W G Z m n) {i : Nat} (hi : i < m) : Calls Try.prog 19 #[.pointer (some ⟨G.tb i, 0, none⟩), .pointer none] W fun e w' => e = .returned (.bool false) ∧ w' = W := by
  have HN := hide (kNever h hi)
  clear h
  go_enter Try.func19, Try.ntmps19
  go_wp2_with (first | (go_at_call 49; with_reducible refine (unhide HN).mono ?_; rintro e w' ⟨rfl, hw⟩; obtain rfl := hw.symm) | (go_at_call 49; refine (kNeverNil _).mono ?_; rintro e w' ⟨rfl, hw⟩; obtain rfl := hw.symm))
  go_ret
  exact ⟨rfl, rfl⟩
theorem run_equalIn_chan (w : World) (k c d : Nat) : (Op.equalIn (k + 1) 101 (.chan (some c)) (.chan (some d))).run Try.prog w = .ok (decide (c = d)) w := by
  have hu := Try.underlying101
  simp [Op.equalIn, run_underlying hu]
  exact Bool.eq_iff_iff.2 (by simp)
theorem run_eql_chan (c d : Nat) (w : World) : (binOp .eql 101 (.chan (some c)) (.chan (some d))).run Try.prog w = .ok (.bool (decide (c = d))) w := by
  simp only [binOp]
  simp [Op.equal, Op.maxDepth, run_equalIn_chan w 9999 c d]
set_option maxRecDepth 100000 in
theorem kOne (h : Fk B W G Z m n) {i j : Nat} (hi : i < m) (hj : j < m) : Calls Try.prog 19 #[.pointer (some ⟨G.tb i, 0, none⟩), .pointer (some ⟨G.tb j, 0, none⟩)] W fun e w' => e = .returned (.bool (decide (G.ch i = G.ch j))) ∧ w' = W := by
  have HN := hide (kNever h hi)
  have HM := hide (kNever h hj)
  have HD := hide (kDone h hi)
  have HE := hide (kDone h hj)
  have hq := run_eql_chan (G.ch i) (G.ch j)
  clear h
  go_enter Try.func19, Try.ntmps19
  go_wp2_with (first
    | (go_at_call 49; with_reducible refine (unhide HN).mono ?_; rintro e w' ⟨rfl, hw⟩; obtain rfl := hw.symm; clear HN)
    | (go_at_call 49; refine (unhide HM).mono ?_; rintro e w' ⟨rfl, hw⟩; obtain rfl := hw.symm; clear HM)
    | (go_at_call 56; with_reducible refine (unhide HD).mono ?_; rintro e w' ⟨rfl, hw⟩; obtain rfl := hw.symm; clear HD)
    | (go_at_call 56; refine (unhide HE).mono ?_; rintro e w' ⟨rfl, hw⟩; obtain rfl := hw.symm; clear HE))
  go_ret
  exact ⟨rfl, rfl⟩
end
end Go.Proofs.Ytajbkgcgmkkpiaa.C
