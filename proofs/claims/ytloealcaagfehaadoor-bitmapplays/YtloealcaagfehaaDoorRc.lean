/- The document's set: Copy. -/
import Derived.Test.YtloealcaagfehaaDoorRw
import Derived.Test.YtloealcaagfehaaDoorLs
import Derived.Test.YtloealcaagfehaaDoorOwn
import Derived.Lib.AppendZeros
namespace Go.Proofs.YtloealcaagfehaaDoor
open Go.RowKit

theorem wp_append_to {P : Program} (w : World) {o : Oper} {a : Act} {K : Act → World → Prop} {Q : Exit → Act → World → Prop} (s x : Operand) (t tn : TypeId)
    (ho : o.op = .call { callee := .builtin .append, args := #[s, x], argTypes := #[t, tn] }) (d : Option Tmp) (hd : o.dst = d) (ty : TypeId) (hty : o.type = ty) (vs vx : Value) (hs : a.eval s = vs) (hx : a.eval x = vx)
    (v' : Value) (w' : World) (hr : (Builtin.append_ #[t, tn] ty #[vs, vx]).run P w = .ok v' w') (h : K (a.put d v') w') : o.wp P a w K Q := by
  subst hd hty
  exact Lib.wp_append_run w s x t tn ho vs vx hs hx v' w' hr h
def upd {α : Type} (f : Nat → α) (a : Nat) (x : α) (i : Nat) : α := if i = a then x else f i
theorem rcopy_end {u : World} {base n S N : Nat} {v : Value} (h : u.ownsRow base 4 1 v (0 + n) ([] ++ Bit.ins S n)) (hd : u.heap[N]? = some (.cells #[.slice none 0 0] 72 (0, 0))) (hS : S < 2 ^ n) (hn : n ≤ 65536) (hb : N < base := by omega) : ∃ q2, (base ≤ q2 ∨ q2 = N) ∧ Rn (u.setCell ⟨N, 0, none⟩ v) N q2 n S := by
  rw [Nat.zero_add, List.nil_append] at h
  exact Rn.of_own (ownsRow_setCell_below h hb v) (by rw [heapCell_same hd]; rfl) hS hn
set_option maxRecDepth 100000 in
set_option maxHeartbeats 2000000 in
theorem rCopy {p q n S : Nat} {w : World} (h : Rm w p q n S) : Calls Tryd.prog 43 #[.pointer (some ⟨p, 0, none⟩)] w fun e w' => ∃ p2 q2, e = .returned (.pointer (some ⟨p2, 0, none⟩)) ∧ w.heap.size ≤ p2 ∧ (w.heap.size + 1 ≤ q2 ∨ q2 = p2) ∧ Rn w' p2 q2 n S ∧ Below w.heap.size w w' := by
  obtain ⟨i0, hi, hz0, hz1, hz2⟩ := info_parts infoBo'
  have HLE := hide h.le
  have HLT := hide h.lt
  have HH := hide h
  obtain ⟨N, hN⟩ : ∃ N, N = w.heap.size := ⟨_, rfl⟩
  have hpN : p < N := by rw [hN]; exact h.plt
  obtain ⟨cap, hc⟩ := h.c0
  clear h
  go_enter Tryd.func43, Tryd.ntmps43
  go_wp2
  rw [← hN]
  have HBX0 : Hid ((w.alloc (.cells #[.slice none 0 0] 72)).heap[N]? = some (.cells #[.slice none 0 0] 72 (0, 0))) := by rw [hN]; exact heap_alloc_new _ _
  have HBW0 : Hid (Below w.heap.size w (w.alloc (.cells #[.slice none 0 0] 72))) := (Below.refl _ w).alloc (Nat.le_refl _) _
  have hsz0 : (w.alloc (.cells #[.slice none 0 0] 72)).heap.size = N + 1 := by rw [hN]; simp
  have HR2 := hide ((unhide HH).below (unhide HBW0))
  generalize w.alloc (.cells #[.slice none 0 0] 72) = W2 at *
  have hcN : W2.cell? ⟨N, 0, none⟩ = some (.slice none 0 0) := by simp [World.cell?, unhide HBX0]
  have hfN : W2.frozen? ⟨N, 0, none⟩ = false := by simp [World.frozen?, unhide HBX0]
  have hcp : W2.cell? ⟨p, 0, none⟩ = some (.slice (some ⟨q, 0, none⟩) n cap) := ((unhide HBW0).cell (p := ⟨p, 0, none⟩) (by show p < w.heap.size; omega)).trans hc
  have HBX := hide (unhide HBX0)
  have HBW := hide (belowDrew (unhide HBW0))
  have HNG : Hid (w.heap.size ≤ N) := Nat.le_of_eq hN.symm
  have HAP := hide (run_append_own' (P := Tryd.prog) W2.drew (N + 1) 70 70 4 i0 (.bool false) 1 1 Tryd.underlying70 hi hz0 hz1 hz2 rfl (by decide) (.slice none 0 0) 0 [] (World.ownsRow_nil _ _ _ _) ⟨q, 0, none⟩ n cap (Bit.ins S n) (by simp [Bit.ins]) (fun j u hj => by
    have hj' : j < n := by have := (List.getElem?_eq_some_iff.1 hj).1; simpa [Bit.ins] using this
    have e : (⟨q, 0, none⟩ : Addr).add j = ⟨q, j, none⟩ := by cases j <;> simp [Addr.add]
    rw [e]
    have hb := (unhide HR2).b j hj'
    have hu : u = .bool (S.testBit j) := by simpa [Bit.ins, hj'] using hj.symm
    rw [hu]
    exact hb) (fun u hu => by
    obtain ⟨j, _, rfl⟩ := List.mem_map.1 hu
    rfl) (by have := unhide HLE; simp only [maxLen]; omega) (by have := unhide HLE; omega) (by show N + 1 ≤ W2.heap.size; omega))
  have HNN := hide hN
  clear HBX0 HBW0 hc HH HR2 hN
  refine wp_region_last (fun u => u.cell? ⟨N, 0, none⟩ = some (.slice none 0 0) ∧ u.cell? ⟨p, 0, none⟩ = some (.slice (some ⟨q, 0, none⟩) n cap) ∧ u.frozen? ⟨N, 0, none⟩ = false) 12 (by kernel_rfl) ⟨hcN, hcp, hfN⟩ fun hS => ?_
  refine wpAnyL_take 0 8 (.pointer (some ⟨N, 0, none⟩)) [] rfl rfl (by kernel_rfl) (by kernel_rfl) (by kernel_rfl) (by kernel_rfl) (by kernel_rfl) (fun _ _ _ h => h) (by rfl) (fun u _ => by go_simp) hS ?_
  simp only [Act.put, List.setIfInBounds_toArray, List.set_cons_zero, List.set_cons_succ]
  refine wpAnyL_take 1 9 (.pointer (some ⟨N, 0, none⟩)) [] rfl rfl (by kernel_rfl) (by kernel_rfl) (by kernel_rfl) (by kernel_rfl) (by kernel_rfl) (fun _ _ _ h => h) (by rfl) (fun u _ => by go_simp) hS ?_
  simp only [Act.put, List.setIfInBounds_toArray, List.set_cons_zero, List.set_cons_succ]
  refine wpAnyL_take 2 10 (.pointer (some ⟨N, 0, none⟩)) [] rfl rfl (by kernel_rfl) (by kernel_rfl) (by kernel_rfl) (by kernel_rfl) (by kernel_rfl) (fun _ _ _ h => h) (by rfl) (fun u _ => by go_simp) hS ?_
  simp only [Act.put, List.setIfInBounds_toArray, List.set_cons_zero, List.set_cons_succ]
  refine wpAnyL_take 3 11 (.pointer (some ⟨N, 0, none⟩)) [] rfl rfl (by kernel_rfl) (by kernel_rfl) (by kernel_rfl) (by kernel_rfl) (by kernel_rfl) (fun _ _ _ h => h) (by rfl) (fun u _ => by go_simp) hS ?_
  simp only [Act.put, List.setIfInBounds_toArray, List.set_cons_zero, List.set_cons_succ]
  refine wpAnyL_take 4 12 (.slice none 0 0) [] rfl rfl (by kernel_rfl) (by kernel_rfl) (by kernel_rfl) (by kernel_rfl) (by kernel_rfl) (fun _ _ _ h => h) (by rfl) (fun u hu => by obtain ⟨s1, s2, s3⟩ := hu; go_simp) hS ?_
  simp only [Act.put, List.setIfInBounds_toArray, List.set_cons_zero, List.set_cons_succ]
  refine wpAnyL_take 5 13 (.pointer (some ⟨p, 0, none⟩)) [] rfl rfl (by kernel_rfl) (by kernel_rfl) (by kernel_rfl) (by kernel_rfl) (by kernel_rfl) (fun _ _ _ h => h) (by rfl) (fun u _ => by go_simp) hS ?_
  simp only [Act.put, List.setIfInBounds_toArray, List.set_cons_zero, List.set_cons_succ]
  refine wpAnyL_take 6 14 (.pointer (some ⟨p, 0, none⟩)) [] rfl rfl (by kernel_rfl) (by kernel_rfl) (by kernel_rfl) (by kernel_rfl) (by kernel_rfl) (fun _ _ _ h => h) (by rfl) (fun u _ => by go_simp) hS ?_
  simp only [Act.put, List.setIfInBounds_toArray, List.set_cons_zero, List.set_cons_succ]
  refine wpAnyL_take 7 15 (.pointer (some ⟨p, 0, none⟩)) [] rfl rfl (by kernel_rfl) (by kernel_rfl) (by kernel_rfl) (by kernel_rfl) (by kernel_rfl) (fun _ _ _ h => h) (by rfl) (fun u _ => by go_simp) hS ?_
  simp only [Act.put, List.setIfInBounds_toArray, List.set_cons_zero, List.set_cons_succ]
  refine wpAnyL_take 8 16 (.slice (some ⟨q, 0, none⟩) n cap) [] rfl rfl (by kernel_rfl) (by kernel_rfl) (by kernel_rfl) (by kernel_rfl) (by kernel_rfl) (fun _ _ _ h => h) (by rfl) (fun u hu => by obtain ⟨s1, s2, s3⟩ := hu; go_simp) hS ?_
  simp only [Act.put, List.setIfInBounds_toArray, List.set_cons_zero, List.set_cons_succ]
  refine wpAnyL_one (i := 9) (by kernel_rfl) rfl (by rfl) fun K hK => ?_
  obtain ⟨v', w5, hrun, hown', hgrow, hnew⟩ := unhide HAP
  refine wp_append_to _ (.tmp 12) (.tmp 16) 70 70 rfl (some 17) rfl 70 rfl _ _ rfl rfl v' w5 hrun ?_
  have hN5 : w5.heap[N]? = W2.heap[N]? := hgrow.block N (by show N < W2.heap.size; omega) (by simp [Value.ownBlock])
  have hp5 : w5.heap[p]? = W2.heap[p]? := hgrow.block p (by show p < W2.heap.size; omega) (by simp [Value.ownBlock])
  have hS5 : w5.cell? ⟨N, 0, none⟩ = some (.slice none 0 0) ∧ w5.cell? ⟨p, 0, none⟩ = some (.slice (some ⟨q, 0, none⟩) n cap) ∧ w5.frozen? ⟨N, 0, none⟩ = false := ⟨(World.cell?_of_block (a := ⟨N, 0, none⟩) hN5).trans hcN, (World.cell?_of_block (a := ⟨p, 0, none⟩) hp5).trans hcp, by rw [World.frozen?, hN5]; exact hfN⟩
  refine hK _ _ (fun _ => hS5) ?_
  clear hK K hS hnew
  have hS := hS5
  simp only [Act.put, List.setIfInBounds_toArray, List.set_cons_zero, List.set_cons_succ]
  have hform : v' = .slice none 0 0 ∨ ∃ g c2, v' = .slice (some ⟨g, 0, none⟩) (0 + n) c2 := by
    rcases hown'.2 with ⟨h, _⟩ | ⟨g, c2, _, h, _⟩
    · exact .inl h
    · exact .inr ⟨g, c2, h⟩
  have HFIN := hide (rcopy_end (N := N) hown' (hN5.trans (unhide HBX)))
  have HB5 := hide ((unhide HBW).grown hgrow (unhide HBW).size (fun k e => by simp [Value.ownBlock] at e))
  clear hown' hgrow hrun hN5 hp5 hS5 HAP
  rcases hform with rfl | ⟨g, c2, rfl⟩
  all_goals
    refine wpAnyL_take 10 18 (.pointer (some ⟨N, 0, none⟩)) [11] rfl rfl (by kernel_rfl) (by kernel_rfl) (by kernel_rfl) (by kernel_rfl) (by kernel_rfl) (fun _ _ _ h => h) (by rfl) (fun u _ => by go_simp) hS ?_
    simp only [Act.put, List.setIfInBounds_toArray, List.set_cons_zero, List.set_cons_succ]
    refine wpAnyL_take 11 19 (.pointer (some ⟨N, 0, none⟩)) [] rfl rfl (by kernel_rfl) (by kernel_rfl) (by kernel_rfl) (by kernel_rfl) (by kernel_rfl) (fun _ _ _ h => h) (by rfl) (fun u _ => by go_simp) hS ?_
    simp only [Act.put, List.setIfInBounds_toArray, List.set_cons_zero, List.set_cons_succ]
    refine wpAnyL_one (i := 12) (by kernel_rfl) rfl (by rfl) fun K hK => ?_
    obtain ⟨s1, s2, s3⟩ := hS
    go_simp
    refine hK _ _ (fun h => absurd rfl h) ?_
    clear hK K
    refine wpAnyL_done (by kernel_rfl) ?_ _
    go_wp2
    go_ret
    obtain ⟨q2, hq2, hrn⟩ := unhide HFIN (unhide HLT) (unhide HLE)
    try rw [Nat.zero_add] at hrn
    exact ⟨N, q2, rfl, unhide HNG, by rw [← unhide HNN]; exact hq2, hrn, belowCell (unhide HB5) (unhide HNG) _⟩
end Go.Proofs.YtloealcaagfehaaDoor
