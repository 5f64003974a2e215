/- Of no set: Next, Each, gone. -/
import Derived.Test.YtinfmomhbegfhaaDoorBeg
namespace Go.Proofs.YtinfmomhbegfhaaDoor
open Go.RowKit Go.Shelf

attribute [local go_sem] Oper.semAt_some

theorem bNextNil (x : Int) (w : World) : Calls Tryd.prog 29 #[.pointer none, .int .i64 x] w fun e w' => e = .returned (.tuple #[.int .i64 0, .bool false]) ∧ w' = w := by
  go_enter Tryd.func29, Tryd.ntmps29
  go_wp2
  go_ret2
  exact ⟨rfl, rfl⟩
set_option maxRecDepth 100000 in
set_option maxHeartbeats 1000000 in
theorem eachNil_in (m : Nat) (hm : 1 ≤ m) (l B : Nat) (J Jx : List Nat → World → Prop) (W : World)
    (hB : W.cell? ⟨B, 0, none⟩ = some (.pointer none)) (h0 : J [] W) :
    CallsIn Fence.wide m Tryd.prog 54 #[.func (.yield l) #[] #[], .pointer (some ⟨B, 0, none⟩)] W fun e W' => (∃ v, e = .returned v) ∧
      ((∃ ys, ys = [] ∧ J ys W') ∨ (∃ pre, pre <+: [] ∧ Jx pre W')) := by
  have H0 := hide h0
  clear h0
  refine callsIn_of_wp Tryd.func54 rfl trivial ?_ rfl
  simp only [Tryd.ntmps54, List.size_toArray, List.length_cons, List.length_nil, Nat.reduceAdd, Nat.reduceSub, Array.replicate_succ, Array.replicate_zero, List.push_toArray, List.append_toArray, List.nil_append, List.cons_append]
  gi_wp2_with (refine ⟨trivial, ?_⟩; gi_at_call 29; refine (callsIn_wide.2 (bNextNil _ _)).mono ?_; rintro e w1 ⟨rfl, hw⟩; obtain rfl := hw.symm; clear hw)
  gi_loopw [4] (fun ok wr => ok = .bool false ∧ wr = W) (fun _ _ => 0)
  case atStart => exact ⟨rfl, rfl⟩
  case round =>
    obtain ⟨rfl, rfl⟩ := hrel
    gi_wp2
    refine ⟨fun _ h => (by cases h), ?_⟩
    gi_wp2
    go_end0
    exact ⟨⟨_, rfl⟩, .inl ⟨[], rfl, unhide H0⟩⟩
theorem eachNil_stops (m : Nat) (hm : 1 ≤ m) {B : Nat} {w : World} (hB : w.cell? ⟨B, 0, none⟩ = some (.pointer none)) (hb : B < w.heap.size) :
    SeqStopsK Fence.wide m Tryd.prog 54 #[.pointer (some ⟨B, 0, none⟩)] (fun x : Nat => #[Value.int .i64 ((x : Nat) : Int)]) (fun _ _ => True) (fun ys => ys = []) (fun pre => pre <+: []) 0 w := fun l J Jx W hW _ _ _ h0 =>
  eachNil_in m hm l B J Jx W ((hW.cell (p := ⟨B, 0, none⟩) hb).trans hB) h0
set_option maxRecDepth 100000 in
set_option maxHeartbeats 2000000 in
theorem lGoneNil (w : World) : Calls Tryd.prog 14 #[.pointer none] w fun e w' => e = .returned (.slice none 0 0) ∧ Below w.heap.size w w' := by
  have hb0 : Below w.heap.size w (w.alloc (.cells #[.slice none 0 0] 36)) := (Below.refl _ w).alloc (Nat.le_refl _) _
  have HE := hide (bEachNil (w.alloc (.cells #[.slice none 0 0] 36)))
  have heq : ∀ (lb : Array Value) (u : World), (binOp .eql 49 (.func (.func 54) #[] lb) .nilFunc).run Tryd.prog u = .ok (.bool false) u := fun _ _ => by kernel_rfl
  refine (callsIn_wide (n := 3)).1 ?_
  refine callsIn_of_wp_marks Tryd.func14 rfl trivial ?_ rfl
  simp only [Tryd.ntmps14, List.size_toArray, List.length_cons, List.length_nil, Nat.reduceAdd, Nat.reduceSub, Array.replicate_succ, Array.replicate_zero, List.push_toArray, List.append_toArray, List.nil_append, List.cons_append]
  gi_wp2_with (refine ⟨trivial, ?_⟩; gi_at_call 23; refine (callsIn_wide.2 (unhide HE)).mono ?_; rintro e w2 ⟨B, rfl, hB, hBl, hc2, hb2⟩)
  have bO : Boxed w2 w.heap.size 36 (.slice none 0 0) := (hb2.block w.heap.size (by simp)).trans (Boxed.new w 36 (.slice none 0 0))
  have hB0 : Below w.heap.size w w2 := hb0.trans (hb2.mono (by simp))
  have hseq := eachNil_stops (3 - 1) (by decide) hc2 hBl
  refine wpIn_rangeFunc_ownG rfl (by decide) (gf := 54) (lb := #[.pointer (some ⟨B, 0, none⟩)]) rfl trivial (enters_of Tryd.func54 (by kernel_rfl) rfl) hseq
    (fun _ _ => trivial) (fun _ _ _ _ _ _ _ _ => trivial) (Below.refl _ _) (fun _ => rfl)
    (fun _ W => Boxed W w.heap.size 36 (.slice none 0 0) ∧ Below w.heap.size w W)
    (fun _ _ _ => False)
    (OwnFrom.and (Own.from (boxed_own _ _ _) _) (ownFrom_below (Nat.le_refl _) hB0.size))
    (fun _ _ _ _ _ hs _ _ => hs)
    ⟨bO, hB0⟩
    (fun x => { tmps := #[.pointer none, undef, .slice none 0 0, .pointer (some ⟨w.heap.size, 0, none⟩), .func (.func 54) #[] #[.pointer (some ⟨B, 0, none⟩)], .int .i64 ((x : Nat) : Int), .pointer none, .func (.func 54) #[] #[.pointer (some ⟨B, 0, none⟩)], .func (.func 54) #[] #[.pointer (some ⟨B, 0, none⟩)], .bool false, undef, .func (.func 54) #[] #[.pointer (some ⟨B, 0, none⟩)], .int .i64 ((x : Nat) : Int), undef, undef, undef, undef, undef], defers := [] }) ?assign ?body ?done ?stop
  case assign =>
    intro l x W K hK
    gi_wp2
    exact hK
  case body =>
    rintro l pre x W _ hlt
    exact absurd hlt (Nat.not_lt_zero _)
  case done =>
    rintro D ys W hD rfl ⟨hv, hB⟩ hK
    have hc := hv.cell
    gi_wp2
    refine ⟨by simp, .inl ⟨_, _, rfl, run_takeDeferred hK, ?_⟩⟩
    exact ⟨_, results_tmp rfl _ _ _, rfl, hB.trans (belowK_b (w := w) (Nat.le_refl _) W D _ _ (by have := hB0.size; omega) hK rfl rfl)⟩
  case stop =>
    rintro D c pre W _ _ h _
    exact h.elim
end Go.Proofs.YtinfmomhbegfhaaDoor
