/- The document's set: what two make. -/
import Derived.Test.YtloealcaagfehaaDoorRq
import Derived.BigQuiet
namespace Go.Proofs.YtloealcaagfehaaDoor
open Go.RowKit

/-- the set's row may be none, where there is no number below the bound -/
def Rn (u : World) (p q n S : Nat) : Prop := Rm u p q n S ∨ (n = 0 ∧ S = 0 ∧ u.heap[p]? = some (.cells #[.slice none 0 0] 72 (0, 0)))
/-- of each number below k whether it is in, as cells -/
def Bit.ins (R k : Nat) : List Value := (List.range k).map fun i => Value.bool (R.testBit i)
theorem Bit.ins_succ (R k : Nat) : Bit.ins R (k + 1) = Bit.ins R k ++ [.bool (R.testBit k)] := by
  rw [Bit.ins, Bit.ins, List.range_succ, List.map_append, List.map_singleton]
/-- an owned row, laid into the set -/
theorem Rn.of_own {u : World} {base p n R : Nat} {v : Value} (h : u.ownsRow base 4 1 v n (Bit.ins R n)) (hd : u.heap[p]? = some (.cells #[v] 72 (0, 0))) (hR : R < 2 ^ n) (hn : n ≤ 65536) : ∃ q, (base ≤ q ∨ q = p) ∧ Rn u p q n R := by
  rcases h.2 with ⟨rfl, h0⟩ | ⟨g, cap, cur, rfl, hg, h3, h4, h5, h6, h7⟩
  · subst h0
    refine ⟨p, .inr rfl, .inr ⟨rfl, ?_, hd⟩⟩
    have : (2 : Nat) ^ 0 = 1 := rfl
    omega
  · refine ⟨g, .inl hg, .inl ⟨⟨cap, hd⟩, ⟨cur, h3, fun i hi => ?_⟩, hR, hn⟩⟩
    have h8 : (cur.toList.take (n * 1))[i]? = (Bit.ins R n)[i]? := by rw [h7]
    rw [List.getElem?_take_of_lt (by omega), Array.getElem?_toList] at h8
    rw [h8]
    simp [Bit.ins, hi]
/-- what is in behind it -/
def Bit.mixB (both mine other a b : Bool) : Bool := a && b && both || a && !b && mine || !a && b && other
theorem infoBo' : (Tryd.prog.info? 4).map (fun i => (i.zero, i.size, i.bytes)) = some (some (.bool false), 1, 1) := by kernel_rfl
set_option maxRecDepth 100000 in
set_option maxHeartbeats 4000000 in
theorem rWith {p q n S p' q' T R : Nat} {w : World} (both mine other : Bool) (h : Rm w p q n S) (h' : Rm w p' q' n T) (hR : ∀ j, j < n → R.testBit j = Bit.mixB both mine other (S.testBit j) (T.testBit j)) (hRl : R < 2 ^ n) :
    Calls Tryd.prog 67 #[.pointer (some ⟨p, 0, none⟩), .pointer (some ⟨p', 0, none⟩), .bool both, .bool mine, .bool other] w fun e w' => e = .returned (.int .i64 0) ∧ U1 w w' p ∧ ∃ q2, (w.heap.size ≤ q2 ∨ q2 = p) ∧ Rn w' p q2 n R := by
  obtain ⟨i0, hi, hz0, hz1, hz2⟩ := info_parts infoBo'
  have hle := h.le
  have HR := hide (fun (u : World) (hb : Below w.heap.size w u) => h.below hb)
  have HR' := hide (fun (u : World) (hb : Below w.heap.size w u) => h'.below hb)
  have HPL := hide h.plt
  have HRB := hide hR
  obtain ⟨cap, hc⟩ := h.c0
  obtain ⟨cap', hc'⟩ := h'.c0
  have HRL := hide hRl
  clear h h' hR hRl
  go_enter Tryd.func67, Tryd.ntmps67
  go_wp2
  go_quiet (fail)
  go_wp2
  clear hc hc'
  go_loopw [11, 12] (fun v i wr => ∃ k : Nat, k ≤ n ∧ i = .int .i64 k ∧ Hid (wr.ownsRow w.heap.size 4 1 v k (Bit.ins R k) ∧ Below w.heap.size w wr)) (fun _ i _ => n - (intOf i).toNat)
  case atStart => exact ⟨0, Nat.zero_le _, rfl, hide ⟨World.ownsRow_nil _ _ _ _, belowDrewN (Below.refl _ _) _⟩⟩
  case round =>
    obtain ⟨k, hk, rfl, HI⟩ := hrel
    have HA := hide (unhide HR wr (unhide HI).2)
    have HB := hide (unhide HR' wr (unhide HI).2)
    obtain ⟨ca, hc1⟩ := (unhide HA).c0
    obtain ⟨cb, hc2⟩ := (unhide HB).c0
    by_cases hlt : k < n
    · have hki : (k : Int) < (n : Int) := by omega
      have hb1 := (unhide HA).b k hlt
      have hb2 := (unhide HB).b k hlt
      have hown := (unhide HI).1
      have hbel := (unhide HI).2
      have hval := unhide HRB k hlt
      obtain ⟨rb, hrb⟩ : ∃ rb, rb = R.testBit k := ⟨_, rfl⟩
      rw [← hrb] at hval
      have HSC : Hid (Bit.ins R (k + 1) = Bit.ins R k ++ [.bool rb]) := by show _ = _; rw [hrb]; exact Bit.ins_succ R k
      generalize S.testBit k = a at *
      generalize T.testBit k = b at *
      clear HI HA HB hrb
      cases a <;> cases b <;> cases both <;> cases mine <;> cases other <;> subst hval
      all_goals
        go_wp2_with (at_builtin; refine wpList_put _ rfl (.tmp 55) (.tmp 83) 70 rfl w.heap.size 4 i0 (.bool false) 1 1 Tryd.underlying70 hi hz0 hz1 hz2 rfl (by decide) _ _ _ rfl (hown.alloc _) ⟨wr.heap.size, 0, none⟩ 1 1 [_] rfl rfl (cell_one_new _ _ _) (by simp [Value.oneCell']) (by simp only [maxLen]; omega) (by omega) (by have := hbel.size; simp; omega) ?_; intro v' w5 hown' hgrow hnew; clear hnew)
        have hb5 : Below w.heap.size w w5 := (hbel.alloc hbel.size _).grown hgrow (by have := hbel.size; simp; omega) (fun k e => own_geR hown e)
        go_roundw
        case rel => exact ⟨k + 1, by omega, by go_num, hide ⟨by rw [unhide HSC]; exact hown', hb5⟩⟩
        case measure => simp [intOf]; omega
    · have hkk : k = n := by omega
      subst hkk
      have hfz : wr.frozen? ⟨p, 0, none⟩ = false := by
        obtain ⟨c, hh⟩ := (unhide HA).hd
        simp [World.frozen?, hh]
      have HH : Hid (∀ v, (wr.setCell ⟨p, 0, none⟩ v).heap[p]? = some (.cells #[v] 72 (0, 0))) := fun v => by
        obtain ⟨c, hh⟩ := (unhide HA).hd
        rw [heapCell_same hh]
        rfl
      have HOW : Hid (∀ v, (wr.setCell ⟨p, 0, none⟩ v).ownsRow w.heap.size 4 1 u11 k (Bit.ins R k)) := fun v => ownsRow_setCell_below (unhide HI).1 (unhide HPL) v
      have HU : Hid (∀ v, U1 w (wr.setCell ⟨p, 0, none⟩ v) p) := fun v => (U1.below' (unhide HI).2).set 0 v
      have hform : u11 = .slice none 0 0 ∨ ∃ g c2, u11 = .slice (some ⟨g, 0, none⟩) k c2 := by
        rcases (unhide HI).1.2 with ⟨h, _⟩ | ⟨g, c2, _, h, _⟩
        · exact .inl h
        · exact .inr ⟨g, c2, h⟩
      clear HI HA HB
      rcases hform with rfl | ⟨g, c2, rfl⟩
      all_goals
        go_wp2
        go_ret
        exact ⟨rfl, unhide HU _, Rn.of_own (unhide HOW _) (unhide HH _) (unhide HRL) hle⟩
end Go.Proofs.YtloealcaagfehaaDoor
