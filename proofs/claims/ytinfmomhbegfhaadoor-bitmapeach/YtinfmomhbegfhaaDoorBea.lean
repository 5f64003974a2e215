/- Each, and what it makes: an iterator over the numbers that were in. -/
import Derived.Test.YtinfmomhbegfhaaDoorBnx
import Derived.Test.YtinfmomhbegfhaaDoorBy
import Derived.RangeFuncBox
import Derived.RangeFuncNested
import Derived.RangeFuncLeaves
import Derived.Shelf.Abstract
import Derived.OwnWalkIn
import Derived.TacticsInMore
import Derived.LoopNIn
import Derived.LoopIn
import Derived.Maps.AppendAt
namespace Go.Proofs.YtinfmomhbegfhaaDoor
open Go.RowKit Go.Shelf

attribute [local go_sem] Oper.semAt_some

/-- what Next answers, in letters -/
def Nx (S n X : Nat) (i : Int) (ok : Bool) : Prop := (∃ y : Nat, Bit.els S n X = y :: Bit.els S n (y + 1) ∧ y < n ∧ X ≤ y ∧ i = (y : Int) ∧ ok = true) ∨ (Bit.els S n X = [] ∧ i = 0 ∧ ok = false)
theorem Nexts.nx {S n X : Nat} {v : Value} (h : Nexts S n X v) : ∃ (i : Int) (ok : Bool), v = .tuple #[.int .i64 i, .bool ok] ∧ Nx S n X i ok := by
  rcases h with ⟨y, h1, h2, h3, rfl⟩ | ⟨h1, rfl⟩
  · exact ⟨_, _, rfl, .inl ⟨y, h1, h2, h3, rfl, rfl⟩⟩
  · exact ⟨_, _, rfl, .inr ⟨h1, rfl, rfl⟩⟩
theorem grown_drewN (w : World) (k : Nat) : w.grownBy (w.drewN k) none := by
  have h : w.grownBy w none := ⟨rfl, rfl, rfl, Nat.le_refl _, fun _ _ _ => rfl⟩
  exact ⟨h.os, h.tape, h.output, h.size, h.block⟩
/-- these blocks lie as they lay -/
def Keeps (ks : List Nat) (u u' : World) : Prop := ∀ k ∈ ks, u'.heap[k]? = u.heap[k]?
theorem Keeps.refl (ks : List Nat) (u : World) : Keeps ks u u := fun _ _ => rfl
theorem Keeps.trans {ks : List Nat} {a b c : World} (h : Keeps ks a b) (k : Keeps ks b c) : Keeps ks a c := fun x hx => (k x hx).trans (h x hx)
theorem Keeps.drewN {ks : List Nat} {a b : World} (h : Keeps ks a b) (k : Nat) : Keeps ks a (b.drewN k) := h
theorem Keeps.below {ks : List Nat} {a b : World} {B : Nat} (h : Below B a b) (hk : ∀ k ∈ ks, k < B) : Keeps ks a b := fun k hx => h.block k (hk k hx)
set_option maxRecDepth 100000 in
set_option maxHeartbeats 1000000 in
theorem each1_in (m : Nat) (hm : 1 ≤ m) (l B : Nat) {p q n S : Nat} (J Jx : List Nat → World → Prop) (W : World) (hJ : AbidesFrom W.heap.size J)
    (hY : ∀ pre x W1, J pre W1 → pre.length < (Bit.els S n 0).length → YieldAt Fence.wide (m - 1) Tryd.prog l #[.int .i64 ((x : Nat) : Int)] W1 fun e W' =>
      (e = .returned (.bool true) ∧ J (pre ++ [x]) W' ∧ Keeps [0, p, q, B] W1 W') ∨ (e = .returned (.bool false) ∧ Jx (pre ++ [x]) W'))
    (hB : W.cell? ⟨B, 0, none⟩ = some (.pointer (some ⟨p, 0, none⟩))) (hM : Bm W p q n S) (hT : Tab W) (h0 : J [] W) :
    CallsIn Fence.wide m Tryd.prog 54 #[.func (.yield l) #[] #[], .pointer (some ⟨B, 0, none⟩)] W fun e W' => (∃ v, e = .returned v) ∧
      ((∃ ys, ys = Bit.els S n 0 ∧ J ys W') ∨ (∃ pre, pre <+: Bit.els S n 0 ∧ Jx pre W')) := by
  have HM := hide (fun (u : World) (hu : Keeps [0, p, q, B] W u) => hM.keep (hu p (by simp)) (hu q (by simp)))
  have HT := hide (fun (u : World) (hu : Keeps [0, p, q, B] W u) => show Tab u from fun i hi => (World.cell?_of_block (a := ⟨0, i, none⟩) (hu 0 (by simp))).trans (hT i hi))
  have HC := hide (fun (u : World) (hu : Keeps [0, p, q, B] W u) => (World.cell?_of_block (a := ⟨B, 0, none⟩) (hu B (by simp))).trans hB)
  have HJ := hide hJ
  have HY := hide hY
  have H0 := hide h0
  have hle := hM.le
  have HN0 := hide (bNext hM hT 0 0 (by decide) (by decide))
  clear hM hT hJ hY h0
  refine callsIn_of_wp Tryd.func54 rfl trivial ?_ rfl
  simp only [Tryd.ntmps54, List.size_toArray, List.length_cons, List.length_nil, Nat.reduceAdd, Nat.reduceSub, Array.replicate_succ, Array.replicate_zero, List.push_toArray, List.append_toArray, List.nil_append, List.cons_append]
  gi_wp2_with (refine ⟨trivial, ?_⟩; gi_at_call 29; refine (callsIn_wide.2 (unhide HN0)).mono ?_; rintro e w1 ⟨⟨v, rfl, hv⟩, c, rfl⟩; obtain ⟨i, ok, rfl, hv2⟩ := hv.nx; have HV := hide hv2; clear hv hv2)
  clear HN0
  gi_loopw [3, 4] (fun i ok wr => ∃ (pre : List Nat) (X : Nat) (iz : Int) (bk : Bool), i = .int .i64 iz ∧ ok = .bool bk ∧ Hid (Bit.els S n 0 = pre ++ Bit.els S n X ∧ J pre wr ∧ Keeps [0, p, q, B] W wr ∧ Nx S n X iz bk)) (fun i ok _ => match ok with | .bool true => n - (intOf i).toNat | _ => 0)
  case atStart => exact ⟨[], 0, i, ok, rfl, rfl, hide ⟨rfl, unhide HJ _ _ _ _ (unhide H0) (grown_drewN _ _) (fun r e => by cases e), (Keeps.refl _ _).drewN _, unhide HV⟩⟩
  case round =>
    clear HV
    obtain ⟨pre, X, iz, bk, rfl, rfl, HI⟩ := hrel
    cases bk with
    | false =>
      have hel : Bit.els S n X = [] := by
        rcases (unhide HI).2.2.2 with ⟨_, _, _, _, _, h⟩ | ⟨h, _⟩
        · cases h
        · exact h
      gi_wp2
      refine ⟨fun _ h => (by cases h), ?_⟩
      gi_wp2
      go_end0
      exact ⟨⟨_, rfl⟩, .inl ⟨pre, by rw [(unhide HI).1, hel, List.append_nil], (unhide HI).2.1⟩⟩
    | true =>
      obtain ⟨y, hy1, hy2, hy3, rfl⟩ : ∃ y : Nat, Bit.els S n X = y :: Bit.els S n (y + 1) ∧ y < n ∧ X ≤ y ∧ iz = (y : Int) := by
        rcases (unhide HI).2.2.2 with ⟨y, h1, h2, h3, h4, _⟩ | ⟨_, _, h⟩
        · exact ⟨y, h1, h2, h3, h4⟩
        · cases h
      obtain ⟨fn, tmps, assign, body, hy, hR⟩ := unhide HY pre y wr (unhide HI).2.1 (by rw [(unhide HI).1, hy1]; simp)
      have HR := hide hR
      clear hR
      have hes := (unhide HI).1
      rw [hy1] at hes
      have HES : Hid (Bit.els S n 0 = (pre ++ [y]) ++ Bit.els S n (y + 1)) := by show _ = _; rw [hes]; simp
      have HBW := hide (unhide HI).2.2.1
      clear HI hes hy1
      gi_wp2
      refine (unhide HR).mono ?_
      rintro e W3 (⟨rfl, hJ3, hk3⟩ | ⟨rfl, hJx3⟩)
      · have hb3 : Keeps [0, p, q, B] W W3 := (unhide HBW).trans hk3
        have hC3 := unhide HC W3 hb3
        have hw1 : IntKind.i64.wrap ((y : Int) + 1) = ((y + 1 : Nat) : Int) := by rw [wrap_small _ (by omega) (by omega)]; omega
        have hw2 : (y : Int) + 1 = ((y + 1 : Nat) : Int) := by omega
        have HN := hide (bNext (unhide HM W3 hb3) (unhide HT W3 hb3) ((y : Int) + 1) (y + 1) (by omega) (by omega))
        have HB3 := hide hb3
        have HJ3 := hide hJ3
        clear hb3 hJ3 hk3 HR hw1 hw2
        gi_wp2_with (refine ⟨trivial, ?_⟩; gi_at_call 29; refine (callsIn_wide.2 (unhide HN)).mono ?_; rintro e w1 ⟨⟨v, rfl, hv⟩, c, rfl⟩; obtain ⟨i2, ok2, rfl, hv2⟩ := hv.nx; have HV := hide hv2; clear hv hv2)
        go_roundw
        case rel => exact ⟨pre ++ [y], y + 1, i2, ok2, rfl, rfl, hide ⟨unhide HES, unhide HJ _ _ _ _ (unhide HJ3) (grown_drewN _ _) (fun r e => by cases e), (unhide HB3).drewN _, unhide HV⟩⟩
        case measure =>
          rcases unhide HV with ⟨y2, _, h2, h3, rfl, rfl⟩ | ⟨_, rfl, rfl⟩
          · simp [intOf]; omega
          · simp [intOf]; omega
      · have HX3 := hide hJx3
        clear hJx3 HR
        gi_wp2
        go_end0
        exact ⟨⟨_, rfl⟩, .inr ⟨pre ++ [y], ⟨_, (unhide HES).symm⟩, unhide HX3⟩⟩
theorem each_stops (m : Nat) (hm : 1 ≤ m) {p q n S B : Nat} {w : World} (hM : Bm w p q n S) (hT : Tab w) (hB : w.cell? ⟨B, 0, none⟩ = some (.pointer (some ⟨p, 0, none⟩))) (hb : B < w.heap.size) :
    SeqStopsK Fence.wide m Tryd.prog 54 #[.pointer (some ⟨B, 0, none⟩)] (fun x : Nat => #[Value.int .i64 ((x : Nat) : Int)]) (Keeps [0, p, q, B]) (fun ys => ys = Bit.els S n 0) (fun pre => pre <+: Bit.els S n 0) (Bit.els S n 0).length w := fun l J Jx W hW hJ _ hY h0 =>
  each1_in m hm l B J Jx W hJ hY ((hW.cell (p := ⟨B, 0, none⟩) hb).trans hB) (hM.below hW) (hT.below hW (World.block_lt_of_cell? _ _ (hT 0 (by decide)))) h0
end Go.Proofs.YtinfmomhbegfhaaDoor
