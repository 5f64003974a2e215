/- Nodes: the walk of NodeKids. -/
import Derived.Test.YtppmpomfihalfaaNrm
namespace Go.Proofs.Ytppmpomfihalfaa
open Go.RowKit

/-- a box behind u -/
def Kb (u w : World) (N : Nat) (bx : Obj) : Prop := Below N u w ∧ w.heap[N]? = some bx
theorem Kb.below {u w w' : World} {N : Nat} {bx : Obj} (h : Kb u w N bx) (hb : Below w.heap.size w w') : Kb u w' N bx :=
  ⟨h.1.trans (hb.mono (Nat.le_of_lt (Array.getElem?_eq_some_iff.1 h.2).1)), box_below h.2 hb⟩
set_option maxRecDepth 100000 in
set_option maxHeartbeats 8000000 in
theorem kids8_no (n : Nd) (a : Nv) (key : ByteArray) (kid : Nat) (u : World) (h : NdAt u n a) (hn : a.Nil) (hb : n.cells.length ≤ 4398046511104 ∧ n.keys.length ≤ 8796093022208 ∧ n.kids.length ≤ 35184372088832) (hno : n.refused false ≠ 0) :
    Calls Try.prog 14 #[a.v n, .string key, .int .u32 (kid : Int)] u fun e u' => e = .returned (.bool true) ∧ Below u.heap.size u u' := by
  have H0 := hide (fun v : World => nAwake v)
  have H1 := hide (fun (v : World) (hv : Below u.heap.size u v) => rCheck n a v (h.below hv) (Nd.kind_sum ⟨hb.1, hb.2.1⟩))
  have H2 := hide (fun (v : World) (hv : Below u.heap.size u v) => lTwin n a v (h.below hv) hn (by omega))
  have H3 := hide (fun (v : World) (b : Nv) (hv : NdAt v n b) => (nKid n b key v hv).mono (fun e w' hh => And.intro (hh.2.1 hno) hh.2.2))
  have hcl : n.check ≠ 0 ∨ n.leaf = true := by
    unfold Nd.refused at hno
    by_cases hc : n.check ≠ 0
    · exact .inl hc
    · rw [if_neg hc] at hno
      cases hl : n.leaf
      · rw [hl] at hno; simp at hno
      · exact .inr rfl
  have H3b : Hid (∀ b : Nv, b.v n = .agg #[.bool n.leaf, .slice b.ca n.cells.length b.cc, .slice b.ka n.keys.length b.kc, .slice b.ga n.kids.length b.gc]) := fun b => Nv.v_eq n b
  clear h hn hb hno
  obtain ⟨N, hN⟩ : ∃ N, N = u.heap.size := ⟨_, rfl⟩
  have HN := hide hN
  rw [← hN] at H1 H2 ⊢
  clear hN
  rw [Nv.v_eq] at H1 H2 ⊢
  obtain ⟨ca, cc, ka, kc, ga, gc⟩ := a
  generalize n.check = c at *
  generalize n.cells.length = cn at *
  generalize n.keys.length = kn at *
  generalize n.kids.length = gn at *
  generalize n.leaf = lf at *
  go_enter Try.func14, Try.ntmps14
  go_wp2_with (first
    | ((with_reducible refine wpList_box_node (by rfl) (.tmp 0) (by rfl) (some 3) (by rfl) N (unhide HN) lf ca cn cc ka kn kc ga gn gc (by with_unfolding_all rfl) ?_); intro W0 HX0 HB0 HS0; simp only [Act.put, List.setIfInBounds_toArray, List.set_cons_zero, List.set_cons_succ])
    | fail)
  have HK0 : Hid (Kb u W0 N (.cells #[.bool lf, .slice ca cn cc, .slice ka kn kc, .slice ga gn gc] 26 (0, 0))) := ⟨unhide HB0, unhide HX0⟩
  clear HX0 HB0 HS0
  refine (unhide H0 _).mono ?_
  rintro e W1 ⟨rfl, hb1⟩
  have HK1 := hide ((unhide HK0).below hb1)
  clear hb1 HK0
  obtain ⟨y0, y1, y2, y3⟩ := box4 (unhide HK1).2
  go_wp2_with fail
  refine (unhide H1 _ (unhide HK1).1).mono ?_
  rintro e W2 ⟨rfl, hb2⟩
  have HK2 := hide ((unhide HK1).below hb2)
  clear hb2 HK1 y0 y1 y2 y3
  obtain ⟨y0, y1, y2, y3⟩ := box4 (unhide HK2).2
  by_cases hc : c = 0
  · obtain rfl := hcl.resolve_left (fun h => h hc)
    subst hc
    go_wp2_with fail
    refine (unhide H2 _ (unhide HK2).1).mono ?_
    rintro e W3 ⟨b, rfl, hnd, _, hb3⟩
    have HK3 := hide ((unhide HK2).below hb3)
    have HC3 := hide (unhide H3 W3 b hnd)
    rw [unhide H3b b] at HC3 ⊢
    clear hb3 HK2 y0 y1 y2 y3 hnd
    go_wp2_with fail
    refine (unhide HC3).mono ?_
    rintro e W4 ⟨rfl, hb4⟩
    have HK4 := hide ((unhide HK3).below hb4)
    clear hb4
    go_wp2
    go_ret
    exact ⟨rfl, (unhide HK4).1⟩
  · have hcb : (c == 0) = false := beq_false_of_ne hc
    go_wp2_with fail
    refine (unhide H2 _ (unhide HK2).1).mono ?_
    rintro e W3 ⟨b, rfl, hnd, _, hb3⟩
    have HK3 := hide ((unhide HK2).below hb3)
    have HC3 := hide (unhide H3 W3 b hnd)
    rw [unhide H3b b] at HC3 ⊢
    clear hb3 HK2 y0 y1 y2 y3 hnd
    go_wp2_with fail
    refine (unhide HC3).mono ?_
    rintro e W4 ⟨rfl, hb4⟩
    have HK4 := hide ((unhide HK3).below hb4)
    clear hb4
    go_wp2
    go_ret
    exact ⟨rfl, (unhide HK4).1⟩
end Go.Proofs.Ytppmpomfihalfaa
