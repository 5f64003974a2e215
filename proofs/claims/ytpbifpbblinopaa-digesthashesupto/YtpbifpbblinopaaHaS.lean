/- Steps over three Hashes. -/
import Derived.Test.YtpbifpbblinopaaHa
namespace Go.Proofs.Ytpbifpbblinopaa
open Go.RowKit

/-- a step -/
structure Stp where
  kind : Int
  on : Int
  to : Int
  ao : Option Addr
  bs : List UInt8
  cap : Nat
structure Stp.At (x : Stp) (w : World) (b o : Nat) : Prop where
  c0 : w.cell? ⟨b, o, none⟩ = some (.int .i64 x.kind)
  c1 : w.cell? ⟨b, o + 1, none⟩ = some (.int .i64 x.on)
  c2 : w.cell? ⟨b, o + 2, none⟩ = some (.int .i64 x.to)
  c3 : w.cell? ⟨b, o + 3, none⟩ = some (.slice x.ao x.bs.length x.cap)
  by' : Lies w x.ao x.bs
theorem Stp.At.below {x : Stp} {w w' : World} {b o : Nat} (h : x.At w b o) (hb : Below w.heap.size w w') (hB : b < w.heap.size) : x.At w' b o :=
  ⟨(hb.cell (p := ⟨b, o, none⟩) hB).trans h.c0, (hb.cell (p := ⟨b, o + 1, none⟩) hB).trans h.c1, (hb.cell (p := ⟨b, o + 2, none⟩) hB).trans h.c2, (hb.cell (p := ⟨b, o + 3, none⟩) hB).trans h.c3, h.by'.below hb⟩
structure Stp.Ok (x : Stp) : Prop where
  kind : -9223372036854775808 ≤ x.kind ∧ x.kind ≤ 9223372036854775807
  on : -9223372036854775808 ≤ x.on ∧ x.on ≤ 9223372036854775807
  to : -9223372036854775808 ≤ x.to ∧ x.to ≤ 9223372036854775807
def Stps (w : World) (a : Option Addr) (l : List Stp) : Prop :=
  (∀ x ∈ l, x.Ok) ∧ (l = [] ∨ ∃ b off, a = some ⟨b, off, none⟩ ∧ b < w.heap.size ∧ ∀ (j : Nat) (hj : j < l.length), l[j].At w b (off + j * 4))
def wts : List Stp → Nat
  | [] => 0
  | x :: r => x.bs.length + wts r
theorem wts_take_succ : ∀ (l : List Stp) (k : Nat) (hk : k < l.length), wts (l.take (k + 1)) = wts (l.take k) + l[k].bs.length
  | x :: r, 0, _ => by simp [wts]
  | x :: r, k + 1, hk => by
    have := wts_take_succ r k (by simpa using hk)
    simp only [List.take_succ_cons, wts, List.getElem_cons_succ, this]
    omega
theorem wts_take_le : ∀ (l : List Stp) (k : Nat), wts (l.take k) ≤ wts l
  | [], _ => by simp
  | x :: r, 0 => by simp [wts]
  | x :: r, k + 1 => by
    have := wts_take_le r k
    simp only [List.take_succ_cons, wts]
    omega
theorem lThree (x : Int) (w : World) : Calls Try.prog 26 #[.int .i64 x] w fun e w' => ∃ a : Nat, a < 3 ∧ e = .returned (.int .i64 (a : Int)) ∧ w' = w := by
  have hm : -3 < Int.tmod x 3 ∧ Int.tmod x 3 < 3 := ⟨Int.lt_tmod_of_pos x (by decide), Int.tmod_lt_of_pos x (by decide)⟩
  go_enter Try.func26, Try.ntmps26
  go_wp2
  go_ret
  exact ⟨((x.tmod 3 + 3) % 3).toNat, by omega, congrArg (fun z : Int => Ending.returned (.int .i64 z)) (by omega), rfl⟩
def pk (k : Nat) (H : Nat → Nat) (i : Nat) : Value := if i < k then .pointer (some ⟨H i, 0, none⟩) else .pointer none
def HPk (k : Nat) (H : Nat → Nat) : Array Value := #[pk k H 0, pk k H 1, pk k H 2]
theorem HPk_set (k : Nat) (H : Nat → Nat) (x : Nat) (hk : k < 3) : (HPk k H).setIfInBounds k (.pointer (some ⟨x, 0, none⟩)) = HPk (k + 1) (upd H k x) := by
  match k, hk with
  | 0, _ => rfl
  | 1, _ => rfl
  | 2, _ => rfl
theorem HPk_at (k : Nat) (H : Nat → Nat) (a : Nat) (ha : a < 3) : (HPk k H)[a]? = some (pk k H a) := by
  match a, ha with
  | 0, _ => rfl
  | 1, _ => rfl
  | 2, _ => rfl
def MZ : Nat → Value := fun _ => .slice none 0 0
theorem zeroH3 : ((Try.prog.info? 43).bind (·.zero)).map (·.cells) = some (HPk 0 (fun _ => 0)) := by kernel_rfl
theorem zeroM3 : ((Try.prog.info? 44).bind (·.zero)).map (·.cells) = some (MP MZ) := by kernel_rfl
structure Pre (w u : World) (bh bm k : Nat) (H : Nat → Nat) : Prop where
  rh : u.heap[bh]? = some (.cells (HPk k H) 43 (0, 0))
  rm : u.heap[bm]? = some (.cells (MP MZ) 44 (0, 0))
  hs : ∀ i, i < k → Hs u (H i) []
  lo : ∀ i, i < k → bm < H i
  hh : ∀ i j, i < k → j < k → i ≠ j → H i ≠ H j
  e1 : bh = w.heap.size
  e2 : bm = w.heap.size + 1
  bel : Below w.heap.size w u
theorem Pre.next {w u u' : World} {bh bm k : Nat} {H : Nat → Nat} (p : Pre w u bh bm k H) (hk : k < 3) (hb : Below u.heap.size u u') (x : Nat) (hx : u.heap.size ≤ x) (hs : Hs u' x []) :
    Pre w (u'.setCell ⟨bh, k, none⟩ (.pointer (some ⟨x, 0, none⟩))) bh bm (k + 1) (upd H k x) := by
  have hlh := (Array.getElem?_eq_some_iff.1 p.rh).1
  have hlm := (Array.getElem?_eq_some_iff.1 p.rm).1
  have e1 := p.e1
  have e2 := p.e2
  have ho : ∀ q, q ≠ bh → (u'.setCell ⟨bh, k, none⟩ (.pointer (some ⟨x, 0, none⟩))).heap[q]? = u'.heap[q]? := fun q hq => Deep.blk_setCell_other _ _ _ _ hq
  refine ⟨by rw [← HPk_set k H x hk]; exact heapCell_same ((hb.block bh hlh).trans p.rh) _ _, (ho bm (by omega)).trans ((hb.block bm hlm).trans p.rm), fun i hi => ?_, fun i hi => ?_, fun i j hi hj hij => ?_, p.e1, p.e2, belowCell (p.bel.trans (hb.mono p.bel.size)) (by show w.heap.size ≤ bh; omega) _⟩
  · by_cases e : i = k
    · subst e; rw [upd_same]; exact hs.keep (ho x (by omega))
    · rw [upd_other _ _ _ _ e]
      have hi' : i < k := by omega
      have := p.lo i hi'
      exact ((p.hs i hi').below hb).keep (ho _ (by omega))
  · by_cases e : i = k
    · subst e; rw [upd_same]; omega
    · rw [upd_other _ _ _ _ e]; exact p.lo i (by omega)
  · by_cases e : i = k
    · subst e
      rw [upd_same, upd_other _ _ _ _ (Ne.symm hij)]
      have := (p.hs j (by omega)).lt
      omega
    · by_cases e2 : j = k
      · subst e2
        rw [upd_same, upd_other _ _ _ _ e]
        have := (p.hs i (by omega)).lt
        omega
      · rw [upd_other _ _ _ _ e, upd_other _ _ _ _ e2]; exact p.hh i j (by omega) (by omega) hij
theorem Pre.done {w u : World} {bh bm : Nat} {H : Nat → Nat} (p : Pre w u bh bm 3 H) : St3 w u bh bm H MZ (fun _ => []) (fun _ => []) := by
  have e1 := p.e1
  have e2 := p.e2
  exact ⟨p.rh, p.rm, p.hs, fun i _ => .inl ⟨rfl, rfl⟩, by omega, by omega, by omega, fun i hi => by have := p.lo i hi; omega, fun i hi => by have := p.lo i hi; omega, p.hh, fun i _ g hg => (by cases hg), fun i j _ _ _ g hg => (by cases hg), p.bel⟩
end Go.Proofs.Ytpbifpbblinopaa
