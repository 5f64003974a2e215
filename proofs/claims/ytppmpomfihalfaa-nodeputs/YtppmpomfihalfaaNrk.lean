/- Nodes: Grow of a branch that may be. -/
import Derived.Test.YtppmpomfihalfaaNrj
namespace Go.Proofs.Ytppmpomfihalfaa
open Go.RowKit

section
variable {P : Program} {ops : Array Oper} {Q : Exit → Act → World → Prop} {md : Region.Mode} {S : World → Prop} {last : Nat}
theorem wpAnyL_two {i j : Nat} {o o' : Oper} {fuel : Nat} {listed : Array Bool} {a : Act} {w : World} (hr : Region.ready md ops listed = [i, j]) (ho : ops[i]? = some o) (ho' : ops[j]? = some o') (hg : Region.wanted o (yielded ops a.tmps) = true) (hg' : Region.wanted o' (yielded ops a.tmps) = true)
    (h : ∀ K : Act → World → Prop, (∀ a w, (i ≠ last → S w) → wpAnyL P md ops Q S last fuel (listed.setIfInBounds i true) a w → K a w) → Oper.wp P o a w K Q)
    (h' : ∀ K : Act → World → Prop, (∀ a w, (j ≠ last → S w) → wpAnyL P md ops Q S last fuel (listed.setIfInBounds j true) a w → K a w) → Oper.wp P o' a w K Q) : wpAnyL P md ops Q S last (fuel + 1) listed a w := by
  refine ⟨fun h0 => absurd (hr ▸ h0) (by simp), ?_⟩
  rw [hr]
  intro k hk
  rcases List.mem_cons.1 hk with rfl | hk
  · refine wpOp_step ho fun K hK => ?_
    rw [if_pos hg]
    exact h K fun a w hs hw => hK a w ⟨hs, hw⟩
  · obtain rfl : k = j := by simpa using hk
    refine wpOp_step ho' fun K hK => ?_
    rw [if_pos hg']
    exact h' K fun a w hs hw => hK a w ⟨hs, hw⟩
end
theorem wp_buildTo {P : Program} {o : Oper} {a : Act} {w : World} {K : Act → World → Prop} {Q : Exit → Act → World → Prop} {t : TypeId} {len : Nat} {parts : Array (Nat × Operand)} (ho : o.op = .buildSlice t len parts)
    (v : Value) (w' : World) (hr : (Instr.buildSlice t len (parts.map fun (i, x) => (i, a.eval x))).run P w = .ok v w') (d : Option Tmp) (hd : o.dst = d) (h : K (a.put d v) w') : o.wp P a w K Q := by
  subst hd
  unfold Oper.wp execOp
  simp only [ho, Sem.run_bind, hr, Result.andThen_ok, Sem.run_pure]
  exact h
theorem bsK (W : World) (q : ByteArray) : (Instr.buildSlice 23 1 #[(0, .string q)]).run Try.prog W = .ok (.slice (some ⟨W.heap.size, 0, none⟩) 1 1) (W.alloc (.cells #[.string q] 9)) := by kernel_rfl
theorem bsG (W : World) (x : Int) : (Instr.buildSlice 24 1 #[(0, .int .u32 x)]).run Try.prog W = .ok (.slice (some ⟨W.heap.size, 0, none⟩) 1 1) (W.alloc (.cells #[.int .u32 x] 50)) := by kernel_rfl
theorem entC : ∀ args (w : World), (callFunc 87 args).run Try.prog w = .ok (.enter 87 args) w := by
  intro args w
  go_simp
/-- a box and a result's block behind u -/
def Gs (u w : World) (N : Nat) (bx rs : Obj) : Prop := (Below N u w ∧ w.heap[N]? = some bx) ∧ w.heap[N + 1]? = some rs
theorem Gs.sz {u w : World} {N : Nat} {bx rs : Obj} (h : Gs u w N bx rs) : N + 2 ≤ w.heap.size := (Array.getElem?_eq_some_iff.1 h.2).1
theorem Gs.below {u w w' : World} {N : Nat} {bx rs : Obj} (h : Gs u w N bx rs) (hb : Below w.heap.size w w') : Gs u w' N bx rs :=
  ⟨⟨h.1.1.trans (hb.mono (by have := h.sz; omega)), box_below h.1.2 hb⟩, box_below h.2 hb⟩
def Nd.grow (n : Nd) (i : Nat) (key : ByteArray) (kid : Nat) : Nd := ⟨false, [], n.keys.take i ++ (key :: n.keys.drop i), n.kids.take (i + 1) ++ (kid :: n.kids.drop (i + 1))⟩
def GrowR (w' : World) (m : Nd) (V : Value) (E : Int) : Prop :=
  (m.check = 0 ∧ E = 0 ∧ ∃ b : Nv, V = b.v m ∧ NdAt w' m b) ∨ (m.check ≠ 0 ∧ E = m.check ∧ V = zeroV)
open Classical in
set_option maxRecDepth 100000 in
set_option maxHeartbeats 8000000 in
theorem nGrow (n : Nd) (a : Nv) (i : Nat) (key : ByteArray) (kid : Nat) (u : World) (h : NdAt u n a) (hc : n.refused false = 0) (hi : i < n.kids.length) (hkey : keyOk key) (hkid : kid ≠ 0) (hkl : kid < 4294967296) : Calls Try.prog 44 #[a.v n, .int .i64 (i : Int), .string key, .int .u32 (kid : Int)] u fun e u' => ∃ V E, e = .returned (.tuple #[V, .int .i64 E]) ∧ GrowR u' (n.grow i key kid) V E ∧ Below u.heap.size u u' := by
  have hok := (Nd.refused_zero.1 hc).1
  have hle := hok.lens
  have hkk : n.kids.length = n.keys.length + 1 := by
    have hk := hok.kind
    have hlf := (Nd.refused_zero.1 hc).2
    unfold Nd.Kind at hk
    rw [if_neg (by rw [hlf]; decide)] at hk
    exact hk.2.2
  have H1 := hide (fun (v : World) (hb : Below u.heap.size u v) => nRefused n a false v (h.below hb))
  have H2 := hide (fun v : World => nKeyMay key v)
  rw [decide_eq_true hkey] at H2
  have H3 : Hid (∀ (v : World) (B : Nat), Below u.heap.size u v → Lies v (some ⟨B, 0, none⟩) [.string key] → Calls Try.prog 91 #[.slice a.ka n.keys.length a.kc, .int .i64 (i : Int), .int .i64 (i : Int), .slice (some ⟨B, 0, none⟩) 1 1] v fun e u' => ∃ r, e = .returned r ∧ ∃ G c, r = .slice (some ⟨G, 0, none⟩) (n.grow i key kid).keys.length c ∧ v.heap.size ≤ G ∧ (Lies u' (some ⟨G, 0, none⟩) (flatK (n.grow i key kid).keys) ∧ (n.grow i key kid).keys.length ≤ c) ∧ Below v.heap.size v u') := fun v B hb hB => by
    have h3 := nSplK (flatK n.keys) (flatK [key]) a.ka (some ⟨B, 0, none⟩) n.keys.length a.kc 1 1 i i v (h.below hb).keys (by simp [flatK]) hB rfl (flatK_one _) (flatK_one _) h.cap.2.1 (by omega) (by omega) (by omega) (by decide)
    refine h3.mono ?_
    rintro e w' ⟨G, he, hG, hr, hb'⟩
    have hlen : (n.grow i key kid).keys.length = i + 1 + (n.keys.length - i) := by
      simp only [Nd.grow, List.length_append, List.length_take, List.length_drop, List.length_cons]
      omega
    have hf : flatK (n.grow i key kid).keys = (flatK n.keys).take (i * 1) ++ (flatK [key] ++ (flatK n.keys).drop (i * 1)) := by simp [flatK, Nd.grow, List.map_take, List.map_drop]
    exact ⟨_, he, G, i + 1 + (n.keys.length - i), by rw [hlen], hG, ⟨by rw [hf]; exact Lies.row hr, by rw [hlen]; exact Nat.le_refl _⟩, hb'⟩
  have H4 : Hid (∀ (v : World) (B : Nat), Below u.heap.size u v → Lies v (some ⟨B, 0, none⟩) [.int .u32 (kid : Int)] → Calls Try.prog 92 #[.slice a.ga n.kids.length a.gc, .int .i64 ((i + 1 : Nat) : Int), .int .i64 ((i + 1 : Nat) : Int), .slice (some ⟨B, 0, none⟩) 1 1] v fun e u' => ∃ r, e = .returned r ∧ ∃ G c, r = .slice (some ⟨G, 0, none⟩) (n.grow i key kid).kids.length c ∧ v.heap.size ≤ G ∧ (Lies u' (some ⟨G, 0, none⟩) (flatG (n.grow i key kid).kids) ∧ (n.grow i key kid).kids.length ≤ c) ∧ Below v.heap.size v u') := fun v B hb hB => by
    have h3 := nSplG (flatG n.kids) (flatG [kid]) a.ga (some ⟨B, 0, none⟩) n.kids.length a.gc 1 1 (i + 1) (i + 1) v (h.below hb).kids (by simp [flatG]) hB rfl (flatG_one _) (flatG_one _) h.cap.2.2 (by omega) (by omega) (by omega) (by decide)
    refine h3.mono ?_
    rintro e w' ⟨G, he, hG, hr, hb'⟩
    have hlen : (n.grow i key kid).kids.length = i + 1 + 1 + (n.kids.length - (i + 1)) := by
      simp only [Nd.grow, List.length_append, List.length_take, List.length_drop, List.length_cons]
      omega
    have hf : flatG (n.grow i key kid).kids = (flatG n.kids).take ((i + 1) * 1) ++ (flatG [kid] ++ (flatG n.kids).drop ((i + 1) * 1)) := by simp [flatG, Nd.grow, List.map_take, List.map_drop]
    exact ⟨_, he, G, i + 1 + 1 + (n.kids.length - (i + 1)), by rw [hlen], hG, ⟨by rw [hf]; exact Lies.row hr, by rw [hlen]; exact Nat.le_refl _⟩, hb'⟩
  have hnd : ∀ (w : World) (G c G2 c2 : Nat), Lies w (some ⟨G, 0, none⟩) (flatK (n.grow i key kid).keys) → (n.grow i key kid).keys.length ≤ c → Lies w (some ⟨G2, 0, none⟩) (flatG (n.grow i key kid).kids) → (n.grow i key kid).kids.length ≤ c2 → NdAt w (n.grow i key kid) ⟨none, 0, some ⟨G, 0, none⟩, c, some ⟨G2, 0, none⟩, c2⟩ := fun w G c G2 c2 l1 e1 l2 e2 => by
    refine ⟨Lies.nil _ _, l1, l2, fun k hk => ?_, ⟨by simp [Nd.grow], ?_, ?_⟩, (fun c hc => by cases hc), ⟨Nat.le_refl _, e1, e2⟩⟩
    · rcases List.mem_append.1 hk with hk | hk
      · exact h.kid k (List.mem_of_mem_take hk)
      · rcases List.mem_cons.1 hk with rfl | hk
        · exact hkl
        · exact h.kid k (List.mem_of_mem_drop hk)
    · simp only [Nd.grow, List.length_append, List.length_take, List.length_drop, List.length_cons]; omega
    · simp only [Nd.grow, List.length_append, List.length_take, List.length_drop, List.length_cons]; omega
  have H5 : Hid (∀ (w : World) (G c G2 c2 : Nat), Lies w (some ⟨G, 0, none⟩) (flatK (n.grow i key kid).keys) → (n.grow i key kid).keys.length ≤ c → Lies w (some ⟨G2, 0, none⟩) (flatG (n.grow i key kid).kids) → (n.grow i key kid).kids.length ≤ c2 → Calls Try.prog 87 #[.agg #[.bool false, .slice none 0 0, .slice (some ⟨G, 0, none⟩) (n.grow i key kid).keys.length c, .slice (some ⟨G2, 0, none⟩) (n.grow i key kid).kids.length c2]] w fun e w' => ∃ r, e = .returned r ∧ ∃ (ko : Option Addr) (kq kp : Nat) (go : Option Addr) (gq gp : Nat) (E : Int), r = .tuple #[.agg #[.bool false, .slice none 0 0, .slice ko kq kp, .slice go gq gp], .int .i64 E] ∧ (((n.grow i key kid).check = 0 ∧ E = 0 ∧ ko = some ⟨G, 0, none⟩ ∧ kq = (n.grow i key kid).keys.length ∧ kp = c ∧ go = some ⟨G2, 0, none⟩ ∧ gq = (n.grow i key kid).kids.length ∧ gp = c2) ∨ ((n.grow i key kid).check ≠ 0 ∧ E = (n.grow i key kid).check ∧ ko = none ∧ kq = 0 ∧ kp = 0 ∧ go = none ∧ gq = 0 ∧ gp = 0)) ∧ Below w.heap.size w w') := fun w G c G2 c2 l1 e1 l2 e2 => by
    refine (nChecked (n.grow i key kid) _ w (hnd w G c G2 c2 l1 e1 l2 e2)).mono ?_
    rintro e w' ⟨hz, hnz, hb⟩
    by_cases h0 : (n.grow i key kid).check = 0
    · exact ⟨_, hz h0, _, _, _, _, _, _, 0, rfl, .inl ⟨h0, rfl, rfl, rfl, rfl, rfl, rfl, rfl⟩, hb⟩
    · exact ⟨_, hnz h0, none, 0, 0, none, 0, 0, _, rfl, .inr ⟨h0, rfl, rfl, rfl, rfl, rfl, rfl, rfl⟩, hb⟩
  have HFIN : Hid (∀ (w' : World) (G c G2 c2 : Nat) (ko : Option Addr) (kq kp : Nat) (go : Option Addr) (gq gp : Nat) (E : Int), (((n.grow i key kid).check = 0 ∧ E = 0 ∧ ko = some ⟨G, 0, none⟩ ∧ kq = (n.grow i key kid).keys.length ∧ kp = c ∧ go = some ⟨G2, 0, none⟩ ∧ gq = (n.grow i key kid).kids.length ∧ gp = c2) ∨ ((n.grow i key kid).check ≠ 0 ∧ E = (n.grow i key kid).check ∧ ko = none ∧ kq = 0 ∧ kp = 0 ∧ go = none ∧ gq = 0 ∧ gp = 0)) → Lies w' (some ⟨G, 0, none⟩) (flatK (n.grow i key kid).keys) → (n.grow i key kid).keys.length ≤ c → Lies w' (some ⟨G2, 0, none⟩) (flatG (n.grow i key kid).kids) → (n.grow i key kid).kids.length ≤ c2 → GrowR w' (n.grow i key kid) (.agg #[.bool false, .slice none 0 0, .slice ko kq kp, .slice go gq gp]) E) := fun w' G c G2 c2 ko kq kp go gq gp E hE l1 e1 l2 e2 => by
    rcases hE with ⟨h0, rfl, rfl, rfl, rfl, rfl, rfl, rfl⟩ | ⟨h0, rfl, rfl, rfl, rfl, rfl, rfl, rfl⟩
    · exact .inl ⟨h0, rfl, _, rfl, hnd w' G _ G2 _ l1 e1 l2 e2⟩
    · exact .inr ⟨h0, rfl, rfl⟩
  have hii : (i : Int) < (n.kids.length : Int) := by omega
  have hil : (i : Int) ≤ 1993 := by omega
  have hkz : ¬ (kid : Int) = 0 := by omega
  clear h hok hle hkk hi hnd hkey hkid hkl
  obtain ⟨N, hN⟩ : ∃ N, N = u.heap.size := ⟨_, rfl⟩
  have HN := hide hN
  rw [← hN] at H1 H3 H4 ⊢
  clear hN
  rw [Nv.v_eq] at H1 ⊢
  rw [hc] at H1
  clear hc
  obtain ⟨ca, cc, ka, kc, ga, gc⟩ := a
  generalize n.grow i key kid = m at *
  generalize m.keys.length = k2 at *
  generalize m.kids.length = g2 at *
  generalize n.cells.length = cn at *
  generalize n.keys.length = kn at *
  generalize n.kids.length = gn at *
  generalize n.leaf = lf at *
  have hc1 : ((i + 1 : Nat) : Int) = (i : Int) + 1 := by omega
  have hi0 : ¬ (i : Int) < 0 := by omega
  have hi1 : ¬ gn ≤ i := by omega
  have hz0 : ((kid : Int) == 0) = false := beq_false_of_ne hkz
  go_enter Try.func44, Try.ntmps44
  go_wp2_with (first
    | ((with_reducible refine wpList_box_node (by rfl) (.tmp 0) (by rfl) (some 4) (by rfl) N (unhide HN) lf ca cn cc ka kn kc ga gn gc (by with_unfolding_all rfl) ?_); intro W0 HX0 HB0 HS0; simp only [Act.put, List.setIfInBounds_toArray, List.set_cons_zero, List.set_cons_succ])
    | ((with_reducible refine wpList_alloc_node (by rfl) (by rfl) (some 8) (by rfl) (N + 1) (unhide HS0).symm ?_); intro W1 HX1 HB1 HS1; simp only [Act.put, List.setIfInBounds_toArray, List.set_cons_zero, List.set_cons_succ]; have HX2 := hide (((unhide HB1).block N (Nat.lt_succ_self N)).trans (unhide HX0)); obtain ⟨y0, y1, y2, y3⟩ := box4 (unhide HX2))
    | fail)
  have HG1 : Hid (Gs u W1 N (.cells #[.bool lf, .slice ca cn cc, .slice ka kn kc, .slice ga gn gc] 26 (0, 0)) (.cells #[.bool false, .slice none 0 0, .slice none 0 0, .slice none 0 0] 26 (0, 0))) := ⟨⟨(unhide HB0).trans ((unhide HB1).mono (Nat.le_succ N)), unhide HX2⟩, unhide HX1⟩
  clear HX0 HB0 HS0 HB1 HS1 HX1 HX2
  refine (unhide H1 _ (unhide HG1).1.1).mono ?_
  rintro e W3 ⟨rfl, hb3⟩
  have HG3 := hide ((unhide HG1).below hb3)
  clear hb3 y0 y1 y2 y3 HG1
  obtain ⟨y0, y1, y2, y3⟩ := box4 (unhide HG3).1.2
  go_wp2_with fail
  refine (unhide H2 _).mono ?_
  rintro e W4 ⟨rfl, hw4⟩
  obtain rfl := hw4.symm
  clear hw4
  go_wp2_with fail
  have hmix : Try.prog.follows .mixedOrders = true := by kernel_rfl
  obtain ⟨X0, hX0⟩ : ∃ X, X = W3.drew := ⟨_, rfl⟩
  have HGX0 : Hid (Gs u X0 N (.cells #[.bool lf, .slice ca cn cc, .slice ka kn kc, .slice ga gn gc] 26 (0, 0)) (.cells #[.bool false, .slice none 0 0, .slice none 0 0, .slice none 0 0] 26 (0, 0))) := by rw [hX0]; exact ⟨⟨belowDrewN (unhide HG3).1.1 1, (unhide HG3).1.2⟩, (unhide HG3).2⟩
  refine wp_region_last (fun W => Below N u W ∧ W.heap[N]? = some (.cells #[.bool lf, .slice ca cn cc, .slice ka kn kc, .slice ga gn gc] 26 (0, 0))) 21 hmix (by rw [← hX0]; exact (unhide HGX0).1) fun hS => ?_
  rw [← hX0] at hS ⊢
  clear HG3 hX0 y0 y1 y2 y3
  refine wpAnyL_take 0 36 (.pointer (some ⟨N, 2, none⟩)) [] rfl rfl (by kernel_rfl) (by kernel_rfl) (by kernel_rfl) (by kernel_rfl) (by kernel_rfl) (fun _ _ _ h => h) (by rfl) (fun u _ => by go_simp) hS ?_
  simp only [Act.put, List.setIfInBounds_toArray, List.set_cons_zero, List.set_cons_succ]
  refine wpAnyL_take 1 37 (.slice ka kn kc) [] rfl rfl (by kernel_rfl) (by kernel_rfl) (by kernel_rfl) (by kernel_rfl) (by kernel_rfl) (fun _ _ _ h => h) (by rfl) (fun W hW => by obtain ⟨x0, x1, x2, x3⟩ := box4 hW.2; go_simp) hS ?_
  simp only [Act.put, List.setIfInBounds_toArray, List.set_cons_zero, List.set_cons_succ]
  refine wpAnyL_take 2 38 (.int .i64 (i : Int)) [] rfl rfl (by kernel_rfl) (by kernel_rfl) (by kernel_rfl) (by kernel_rfl) (by kernel_rfl) (fun _ _ _ h => h) (by rfl) (fun u _ => by go_simp) hS ?_
  simp only [Act.put, List.setIfInBounds_toArray, List.set_cons_zero, List.set_cons_succ]
  refine wpAnyL_take 3 39 (.int .i64 (i : Int)) [] rfl rfl (by kernel_rfl) (by kernel_rfl) (by kernel_rfl) (by kernel_rfl) (by kernel_rfl) (fun _ _ _ h => h) (by rfl) (fun u _ => by go_simp) hS ?_
  simp only [Act.put, List.setIfInBounds_toArray, List.set_cons_zero, List.set_cons_succ]
  refine wpAnyL_take 4 40 (.string key) [] rfl rfl (by kernel_rfl) (by kernel_rfl) (by kernel_rfl) (by kernel_rfl) (by kernel_rfl) (fun _ _ _ h => h) (by rfl) (fun u _ => by go_simp) hS ?_
  simp only [Act.put, List.setIfInBounds_toArray, List.set_cons_zero, List.set_cons_succ]
  refine wpAnyL_take 7 43 (.pointer (some ⟨N, 3, none⟩)) [] rfl rfl (by kernel_rfl) (by kernel_rfl) (by kernel_rfl) (by kernel_rfl) (by kernel_rfl) (fun _ _ _ h => h) (by rfl) (fun u _ => by go_simp) hS ?_
  simp only [Act.put, List.setIfInBounds_toArray, List.set_cons_zero, List.set_cons_succ]
  refine wpAnyL_take 8 44 (.slice ga gn gc) [] rfl rfl (by kernel_rfl) (by kernel_rfl) (by kernel_rfl) (by kernel_rfl) (by kernel_rfl) (fun _ _ _ h => h) (by rfl) (fun W hW => by obtain ⟨x0, x1, x2, x3⟩ := box4 hW.2; go_simp) hS ?_
  simp only [Act.put, List.setIfInBounds_toArray, List.set_cons_zero, List.set_cons_succ]
  refine wpAnyL_take 9 45 (.int .i64 (i : Int)) [] rfl rfl (by kernel_rfl) (by kernel_rfl) (by kernel_rfl) (by kernel_rfl) (by kernel_rfl) (fun _ _ _ h => h) (by rfl) (fun u _ => by go_simp) hS ?_
  simp only [Act.put, List.setIfInBounds_toArray, List.set_cons_zero, List.set_cons_succ]
  refine wpAnyL_take 10 46 (.int .i64 ((i + 1 : Nat) : Int)) [] rfl rfl (by kernel_rfl) (by kernel_rfl) (by kernel_rfl) (by kernel_rfl) (by kernel_rfl) (fun _ _ _ h => h) (by rfl) (fun W hW => by rw [hc1]; go_simp; rw [IntKind.wrap_i64]; omega) hS ?_
  simp only [Act.put, List.setIfInBounds_toArray, List.set_cons_zero, List.set_cons_succ]
  refine wpAnyL_take 11 47 (.int .i64 (i : Int)) [] rfl rfl (by kernel_rfl) (by kernel_rfl) (by kernel_rfl) (by kernel_rfl) (by kernel_rfl) (fun _ _ _ h => h) (by rfl) (fun u _ => by go_simp) hS ?_
  simp only [Act.put, List.setIfInBounds_toArray, List.set_cons_zero, List.set_cons_succ]
  refine wpAnyL_take 12 48 (.int .i64 ((i + 1 : Nat) : Int)) [] rfl rfl (by kernel_rfl) (by kernel_rfl) (by kernel_rfl) (by kernel_rfl) (by kernel_rfl) (fun _ _ _ h => h) (by rfl) (fun W hW => by rw [hc1]; go_simp; rw [IntKind.wrap_i64]; omega) hS ?_
  simp only [Act.put, List.setIfInBounds_toArray, List.set_cons_zero, List.set_cons_succ]
  refine wpAnyL_take 13 49 (.int .u32 (kid : Int)) [] rfl rfl (by kernel_rfl) (by kernel_rfl) (by kernel_rfl) (by kernel_rfl) (by kernel_rfl) (fun _ _ _ h => h) (by rfl) (fun u _ => by go_simp) hS ?_
  simp only [Act.put, List.setIfInBounds_toArray, List.set_cons_zero, List.set_cons_succ]
  refine wpAnyL_two (i := 5) (j := 14) (by kernel_rfl) rfl rfl (by rfl) (by rfl) (fun K hK => ?_) (fun K hK => ?_)
  · refine wp_buildTo (by rfl) _ _ (by simp only [List.map_toArray, List.map_cons, List.map_nil]; exact bsK X0 _) (some 41) (by rfl) ?_
    obtain ⟨X1, hw2⟩ : ∃ X, X = X0.alloc (.cells #[.string key] 9) := ⟨_, rfl⟩
    obtain ⟨B1, hb2⟩ : ∃ X, X = X0.heap.size := ⟨_, rfl⟩
    have hbe : Below X0.heap.size X0 X1 := by rw [hw2]; exact (Below.refl _ _).alloc (Nat.le_refl _) _
    have HGX1 := hide ((unhide HGX0).below hbe)
    have HQ : Hid (Lies X1 (some ⟨B1, 0, none⟩) [.string key]) := by rw [hw2, hb2]; exact Lies.row (heap_alloc_new _ _)
    rw [← hw2, ← hb2]
    refine hK _ _ (fun _ => (unhide HGX1).1) ?_
    clear hK K hw2 hb2 hbe
    simp only [Act.put, List.setIfInBounds_toArray, List.set_cons_zero, List.set_cons_succ]
    refine wpAnyL_two (i := 6) (j := 14) (by kernel_rfl) rfl rfl (by rfl) (by rfl) (fun K hK => ?_) (fun K hK => ?_)
    · refine wp_call_fn 91 _ _ (by rfl) #[.slice ka kn kc, .int .i64 (i : Int), .int .i64 (i : Int), .slice (some ⟨B1, 0, none⟩) 1 1] (by with_unfolding_all rfl) entK (some 42) (by rfl) _ (unhide H3 _ _ (unhide HGX1).1.1 (unhide HQ)) ?_
      rintro _ X2 ⟨G, c4, rfl, hG, hl4, hbe⟩
      have HGX2 := hide ((unhide HGX1).below hbe)
      have HF4 : Hid (N + 2 ≤ G) := hide (Nat.le_trans (unhide HGX1).sz hG)
      have HL4 := hide hl4
      refine hK _ _ (fun _ => (unhide HGX2).1) ?_
      clear hK K hG hl4 hbe
      simp only [Act.put, List.setIfInBounds_toArray, List.set_cons_zero, List.set_cons_succ]
      refine wpAnyL_one (i := 14) (by kernel_rfl) rfl (by rfl) fun K hK => ?_
      refine wp_buildTo (by rfl) _ _ (by simp only [List.map_toArray, List.map_cons, List.map_nil]; exact bsG X2 _) (some 50) (by rfl) ?_
      obtain ⟨X3, hw2⟩ : ∃ X, X = X2.alloc (.cells #[.int .u32 (kid : Int)] 50) := ⟨_, rfl⟩
      obtain ⟨B2, hb2⟩ : ∃ X, X = X2.heap.size := ⟨_, rfl⟩
      have hbe : Below X2.heap.size X2 X3 := by rw [hw2]; exact (Below.refl _ _).alloc (Nat.le_refl _) _
      have HGX3 := hide ((unhide HGX2).below hbe)
      have HV : Hid (Lies X3 (some ⟨B2, 0, none⟩) [.int .u32 (kid : Int)]) := by rw [hw2, hb2]; exact Lies.row (heap_alloc_new _ _)
      have HL4 := hide (And.intro ((unhide HL4).1.below hbe) (unhide HL4).2)
      rw [← hw2, ← hb2]
      refine hK _ _ (fun _ => (unhide HGX3).1) ?_
      clear hK K hw2 hb2 hbe
      simp only [Act.put, List.setIfInBounds_toArray, List.set_cons_zero, List.set_cons_succ]
      refine wpAnyL_one (i := 15) (by kernel_rfl) rfl (by rfl) fun K hK => ?_
      refine wp_call_fn 92 _ _ (by rfl) #[.slice ga gn gc, .int .i64 ((i + 1 : Nat) : Int), .int .i64 ((i + 1 : Nat) : Int), .slice (some ⟨B2, 0, none⟩) 1 1] (by with_unfolding_all rfl) entG (some 51) (by rfl) _ (unhide H4 _ _ (unhide HGX3).1.1 (unhide HV)) ?_
      rintro _ W5 ⟨G2, c5, rfl, hG, hl5, hbe⟩
      have HGW5 := hide ((unhide HGX3).below hbe)
      have HF5 : Hid (N + 2 ≤ G2) := hide (Nat.le_trans (unhide HGX3).sz hG)
      have HL5 := hide hl5
      have HL4b := hide ((unhide HL4).1.below hbe)
      refine hK _ _ (fun _ => (unhide HGW5).1) ?_
      clear hK K hG hl5 hbe
      simp only [Act.put, List.setIfInBounds_toArray, List.set_cons_zero, List.set_cons_succ]
      refine wpAnyL_one (i := 16) (by kernel_rfl) rfl (by rfl) fun K hK => ?_
      refine wp_val (.agg #[.bool false, .slice none 0 0, .slice (some ⟨G, 0, none⟩) k2 c4, .slice (some ⟨G2, 0, none⟩) g2 c5]) (by go_simp) (some 52) (by rfl) ?_
      refine hK _ _ (fun _ => (unhide HGW5).1) ?_
      clear hK K
      simp only [Act.put, List.setIfInBounds_toArray, List.set_cons_zero, List.set_cons_succ]
      refine wpAnyL_one (i := 17) (by kernel_rfl) rfl (by rfl) fun K hK => ?_
      refine wp_call_fn 87 _ _ (by rfl) #[.agg #[.bool false, .slice none 0 0, .slice (some ⟨G, 0, none⟩) k2 c4, .slice (some ⟨G2, 0, none⟩) g2 c5]] (by with_unfolding_all rfl) entC (some 53) (by rfl) _ (unhide H5 W5 G c4 G2 c5 (unhide HL4b) (unhide HL4).2 (unhide HL5).1 (unhide HL5).2) ?_
      rintro _ W6 ⟨ko, kq, kp, go, gq, gp, E, rfl, hE, hbe⟩
      have HGW6 := hide ((unhide HGW5).below hbe)
      have HE := hide hE
      have HLA := hide ((unhide HL4b).below hbe)
      have HLB := hide ((unhide HL5).1.below hbe)
      refine hK _ _ (fun _ => (unhide HGW6).1) ?_
      clear hK K hE hbe
      simp only [Act.put, List.setIfInBounds_toArray, List.set_cons_zero, List.set_cons_succ]
      refine wpAnyL_take 18 54 (.agg #[.bool false, .slice none 0 0, .slice ko kq kp, .slice go gq gp]) [] rfl rfl (by kernel_rfl) (by kernel_rfl) (by kernel_rfl) (by kernel_rfl) (by kernel_rfl) (fun _ _ _ h => h) (by rfl) (fun u _ => by go_simp) (unhide HGW6).1 ?_
      simp only [Act.put, List.setIfInBounds_toArray, List.set_cons_zero, List.set_cons_succ]
      refine wpAnyL_one (i := 19) (by kernel_rfl) rfl (by rfl) fun K hK => ?_
      refine wp_val (.int .i64 E) (by go_simp) (some 55) (by rfl) ?_
      refine hK _ _ (fun _ => (unhide HGW6).1) ?_
      clear hK K
      simp only [Act.put, List.setIfInBounds_toArray, List.set_cons_zero, List.set_cons_succ]
      refine wpAnyL_one (i := 20) (by kernel_rfl) rfl (by rfl) fun K hK => ?_
      refine wp_store_row 26 (.tmp 8) (.tmp 54) (by rfl) (N + 1) #[.bool false, .slice none 0 0, .slice ko kq kp, .slice go gq gp] (by rfl) (by rfl) 26 _ (unhide HGW6).2 nodeInfo rfl (node_one _ _ _ _ _ _ _ _ _ _) ?_
      obtain ⟨W8, HE8⟩ : ∃ W8, W8 = W6.setRow (N + 1) #[.bool false, .slice none 0 0, .slice ko kq kp, .slice go gq gp] := ⟨_, rfl⟩
      have HX8 : Hid (W8.heap[N + 1]? = some (.cells #[.bool false, .slice none 0 0, .slice ko kq kp, .slice go gq gp] 26 (0, 0))) := by rw [HE8]; exact heapRow_same (unhide HGW6).2 _
      have HZ : Hid (Below N u W8 ∧ Lies W8 (some ⟨G, 0, none⟩) (flatK m.keys) ∧ Lies W8 (some ⟨G2, 0, none⟩) (flatG m.kids)) := by
        rw [HE8]
        exact ⟨belowRow (unhide HGW6).1.1 (Nat.le_succ N) _, (unhide HLA).setRow (N + 1) _ (fun b o e => by cases e; have := unhide HF4; omega), (unhide HLB).setRow (N + 1) _ (fun b o e => by cases e; have := unhide HF5; omega)⟩
      rw [← HE8]
      refine hK _ _ (fun _ => ⟨(unhide HZ).1, by rw [HE8]; exact (heapRow_other _ _ _ _ (by omega)).trans (unhide HGW6).1.2⟩) ?_
      clear hK K HE8
      simp only [Act.put, List.setIfInBounds_toArray]
      refine wpAnyL_one (i := 21) (by kernel_rfl) rfl (by rfl) fun K hK => ?_
      refine wp_val (.int .i64 E) (by go_simp) (some 9) (by rfl) ?_
      refine hK _ _ (fun h => absurd rfl h) ?_
      clear hK K
      simp only [Act.put]
      refine wpAnyL_done (by kernel_rfl) ?_ _
      go_wp2
      refine bodyPost_ret (results_cell_tmp rfl _ _ (N + 1) 26 #[.bool false, .slice none 0 0, .slice ko kq kp, .slice go gq gp] (0, 0) _ rfl (unhide HX8) nodeUnd rfl nodeInfo) rfl ?_
      exact ⟨_, E, rfl, unhide HFIN W8 G c4 G2 c5 _ _ _ _ _ _ E (unhide HE) (unhide HZ).2.1 (unhide HL4).2 (unhide HZ).2.2 (unhide HL5).2, (unhide HZ).1⟩
    · refine wp_buildTo (by rfl) _ _ (by simp only [List.map_toArray, List.map_cons, List.map_nil]; exact bsG X1 _) (some 50) (by rfl) ?_
      obtain ⟨X2, hw2⟩ : ∃ X, X = X1.alloc (.cells #[.int .u32 (kid : Int)] 50) := ⟨_, rfl⟩
      obtain ⟨B2, hb2⟩ : ∃ X, X = X1.heap.size := ⟨_, rfl⟩
      have hbe : Below X1.heap.size X1 X2 := by rw [hw2]; exact (Below.refl _ _).alloc (Nat.le_refl _) _
      have HGX2 := hide ((unhide HGX1).below hbe)
      have HV : Hid (Lies X2 (some ⟨B2, 0, none⟩) [.int .u32 (kid : Int)]) := by rw [hw2, hb2]; exact Lies.row (heap_alloc_new _ _)
      have HQ := hide ((unhide HQ).below hbe)
      rw [← hw2, ← hb2]
      refine hK _ _ (fun _ => (unhide HGX2).1) ?_
      clear hK K hw2 hb2 hbe
      simp only [Act.put, List.setIfInBounds_toArray, List.set_cons_zero, List.set_cons_succ]
      refine wpAnyL_one (i := 6) (by kernel_rfl) rfl (by rfl) fun K hK => ?_
      refine wp_call_fn 91 _ _ (by rfl) #[.slice ka kn kc, .int .i64 (i : Int), .int .i64 (i : Int), .slice (some ⟨B1, 0, none⟩) 1 1] (by with_unfolding_all rfl) entK (some 42) (by rfl) _ (unhide H3 _ _ (unhide HGX2).1.1 (unhide HQ)) ?_
      rintro _ X3 ⟨G, c4, rfl, hG, hl4, hbe⟩
      have HGX3 := hide ((unhide HGX2).below hbe)
      have HF4 : Hid (N + 2 ≤ G) := hide (Nat.le_trans (unhide HGX2).sz hG)
      have HL4 := hide hl4
      have HV := hide ((unhide HV).below hbe)
      refine hK _ _ (fun _ => (unhide HGX3).1) ?_
      clear hK K hG hl4 hbe
      simp only [Act.put, List.setIfInBounds_toArray, List.set_cons_zero, List.set_cons_succ]
      refine wpAnyL_one (i := 15) (by kernel_rfl) rfl (by rfl) fun K hK => ?_
      refine wp_call_fn 92 _ _ (by rfl) #[.slice ga gn gc, .int .i64 ((i + 1 : Nat) : Int), .int .i64 ((i + 1 : Nat) : Int), .slice (some ⟨B2, 0, none⟩) 1 1] (by with_unfolding_all rfl) entG (some 51) (by rfl) _ (unhide H4 _ _ (unhide HGX3).1.1 (unhide HV)) ?_
      rintro _ W5 ⟨G2, c5, rfl, hG, hl5, hbe⟩
      have HGW5 := hide ((unhide HGX3).below hbe)
      have HF5 : Hid (N + 2 ≤ G2) := hide (Nat.le_trans (unhide HGX3).sz hG)
      have HL5 := hide hl5
      have HL4b := hide ((unhide HL4).1.below hbe)
      refine hK _ _ (fun _ => (unhide HGW5).1) ?_
      clear hK K hG hl5 hbe
      simp only [Act.put, List.setIfInBounds_toArray, List.set_cons_zero, List.set_cons_succ]
      refine wpAnyL_one (i := 16) (by kernel_rfl) rfl (by rfl) fun K hK => ?_
      refine wp_val (.agg #[.bool false, .slice none 0 0, .slice (some ⟨G, 0, none⟩) k2 c4, .slice (some ⟨G2, 0, none⟩) g2 c5]) (by go_simp) (some 52) (by rfl) ?_
      refine hK _ _ (fun _ => (unhide HGW5).1) ?_
      clear hK K
      simp only [Act.put, List.setIfInBounds_toArray, List.set_cons_zero, List.set_cons_succ]
      refine wpAnyL_one (i := 17) (by kernel_rfl) rfl (by rfl) fun K hK => ?_
      refine wp_call_fn 87 _ _ (by rfl) #[.agg #[.bool false, .slice none 0 0, .slice (some ⟨G, 0, none⟩) k2 c4, .slice (some ⟨G2, 0, none⟩) g2 c5]] (by with_unfolding_all rfl) entC (some 53) (by rfl) _ (unhide H5 W5 G c4 G2 c5 (unhide HL4b) (unhide HL4).2 (unhide HL5).1 (unhide HL5).2) ?_
      rintro _ W6 ⟨ko, kq, kp, go, gq, gp, E, rfl, hE, hbe⟩
      have HGW6 := hide ((unhide HGW5).below hbe)
      have HE := hide hE
      have HLA := hide ((unhide HL4b).below hbe)
      have HLB := hide ((unhide HL5).1.below hbe)
      refine hK _ _ (fun _ => (unhide HGW6).1) ?_
      clear hK K hE hbe
      simp only [Act.put, List.setIfInBounds_toArray, List.set_cons_zero, List.set_cons_succ]
      refine wpAnyL_take 18 54 (.agg #[.bool false, .slice none 0 0, .slice ko kq kp, .slice go gq gp]) [] rfl rfl (by kernel_rfl) (by kernel_rfl) (by kernel_rfl) (by kernel_rfl) (by kernel_rfl) (fun _ _ _ h => h) (by rfl) (fun u _ => by go_simp) (unhide HGW6).1 ?_
      simp only [Act.put, List.setIfInBounds_toArray, List.set_cons_zero, List.set_cons_succ]
      refine wpAnyL_one (i := 19) (by kernel_rfl) rfl (by rfl) fun K hK => ?_
      refine wp_val (.int .i64 E) (by go_simp) (some 55) (by rfl) ?_
      refine hK _ _ (fun _ => (unhide HGW6).1) ?_
      clear hK K
      simp only [Act.put, List.setIfInBounds_toArray, List.set_cons_zero, List.set_cons_succ]
      refine wpAnyL_one (i := 20) (by kernel_rfl) rfl (by rfl) fun K hK => ?_
      refine wp_store_row 26 (.tmp 8) (.tmp 54) (by rfl) (N + 1) #[.bool false, .slice none 0 0, .slice ko kq kp, .slice go gq gp] (by rfl) (by rfl) 26 _ (unhide HGW6).2 nodeInfo rfl (node_one _ _ _ _ _ _ _ _ _ _) ?_
      obtain ⟨W8, HE8⟩ : ∃ W8, W8 = W6.setRow (N + 1) #[.bool false, .slice none 0 0, .slice ko kq kp, .slice go gq gp] := ⟨_, rfl⟩
      have HX8 : Hid (W8.heap[N + 1]? = some (.cells #[.bool false, .slice none 0 0, .slice ko kq kp, .slice go gq gp] 26 (0, 0))) := by rw [HE8]; exact heapRow_same (unhide HGW6).2 _
      have HZ : Hid (Below N u W8 ∧ Lies W8 (some ⟨G, 0, none⟩) (flatK m.keys) ∧ Lies W8 (some ⟨G2, 0, none⟩) (flatG m.kids)) := by
        rw [HE8]
        exact ⟨belowRow (unhide HGW6).1.1 (Nat.le_succ N) _, (unhide HLA).setRow (N + 1) _ (fun b o e => by cases e; have := unhide HF4; omega), (unhide HLB).setRow (N + 1) _ (fun b o e => by cases e; have := unhide HF5; omega)⟩
      rw [← HE8]
      refine hK _ _ (fun _ => ⟨(unhide HZ).1, by rw [HE8]; exact (heapRow_other _ _ _ _ (by omega)).trans (unhide HGW6).1.2⟩) ?_
      clear hK K HE8
      simp only [Act.put, List.setIfInBounds_toArray]
      refine wpAnyL_one (i := 21) (by kernel_rfl) rfl (by rfl) fun K hK => ?_
      refine wp_val (.int .i64 E) (by go_simp) (some 9) (by rfl) ?_
      refine hK _ _ (fun h => absurd rfl h) ?_
      clear hK K
      simp only [Act.put]
      refine wpAnyL_done (by kernel_rfl) ?_ _
      go_wp2
      refine bodyPost_ret (results_cell_tmp rfl _ _ (N + 1) 26 #[.bool false, .slice none 0 0, .slice ko kq kp, .slice go gq gp] (0, 0) _ rfl (unhide HX8) nodeUnd rfl nodeInfo) rfl ?_
      exact ⟨_, E, rfl, unhide HFIN W8 G c4 G2 c5 _ _ _ _ _ _ E (unhide HE) (unhide HZ).2.1 (unhide HL4).2 (unhide HZ).2.2 (unhide HL5).2, (unhide HZ).1⟩
  · refine wp_buildTo (by rfl) _ _ (by simp only [List.map_toArray, List.map_cons, List.map_nil]; exact bsG X0 _) (some 50) (by rfl) ?_
    obtain ⟨X1, hw2⟩ : ∃ X, X = X0.alloc (.cells #[.int .u32 (kid : Int)] 50) := ⟨_, rfl⟩
    obtain ⟨B2, hb2⟩ : ∃ X, X = X0.heap.size := ⟨_, rfl⟩
    have hbe : Below X0.heap.size X0 X1 := by rw [hw2]; exact (Below.refl _ _).alloc (Nat.le_refl _) _
    have HGX1 := hide ((unhide HGX0).below hbe)
    have HV : Hid (Lies X1 (some ⟨B2, 0, none⟩) [.int .u32 (kid : Int)]) := by rw [hw2, hb2]; exact Lies.row (heap_alloc_new _ _)
    rw [← hw2, ← hb2]
    refine hK _ _ (fun _ => (unhide HGX1).1) ?_
    clear hK K hw2 hb2 hbe
    simp only [Act.put, List.setIfInBounds_toArray, List.set_cons_zero, List.set_cons_succ]
    refine wpAnyL_one (i := 5) (by kernel_rfl) rfl (by rfl) fun K hK => ?_
    refine wp_buildTo (by rfl) _ _ (by simp only [List.map_toArray, List.map_cons, List.map_nil]; exact bsK X1 _) (some 41) (by rfl) ?_
    obtain ⟨X2, hw2⟩ : ∃ X, X = X1.alloc (.cells #[.string key] 9) := ⟨_, rfl⟩
    obtain ⟨B1, hb2⟩ : ∃ X, X = X1.heap.size := ⟨_, rfl⟩
    have hbe : Below X1.heap.size X1 X2 := by rw [hw2]; exact (Below.refl _ _).alloc (Nat.le_refl _) _
    have HGX2 := hide ((unhide HGX1).below hbe)
    have HQ : Hid (Lies X2 (some ⟨B1, 0, none⟩) [.string key]) := by rw [hw2, hb2]; exact Lies.row (heap_alloc_new _ _)
    have HV := hide ((unhide HV).below hbe)
    rw [← hw2, ← hb2]
    refine hK _ _ (fun _ => (unhide HGX2).1) ?_
    clear hK K hw2 hb2 hbe
    simp only [Act.put, List.setIfInBounds_toArray, List.set_cons_zero, List.set_cons_succ]
    refine wpAnyL_one (i := 6) (by kernel_rfl) rfl (by rfl) fun K hK => ?_
    refine wp_call_fn 91 _ _ (by rfl) #[.slice ka kn kc, .int .i64 (i : Int), .int .i64 (i : Int), .slice (some ⟨B1, 0, none⟩) 1 1] (by with_unfolding_all rfl) entK (some 42) (by rfl) _ (unhide H3 _ _ (unhide HGX2).1.1 (unhide HQ)) ?_
    rintro _ X3 ⟨G, c4, rfl, hG, hl4, hbe⟩
    have HGX3 := hide ((unhide HGX2).below hbe)
    have HF4 : Hid (N + 2 ≤ G) := hide (Nat.le_trans (unhide HGX2).sz hG)
    have HL4 := hide hl4
    have HV := hide ((unhide HV).below hbe)
    refine hK _ _ (fun _ => (unhide HGX3).1) ?_
    clear hK K hG hl4 hbe
    simp only [Act.put, List.setIfInBounds_toArray, List.set_cons_zero, List.set_cons_succ]
    refine wpAnyL_one (i := 15) (by kernel_rfl) rfl (by rfl) fun K hK => ?_
    refine wp_call_fn 92 _ _ (by rfl) #[.slice ga gn gc, .int .i64 ((i + 1 : Nat) : Int), .int .i64 ((i + 1 : Nat) : Int), .slice (some ⟨B2, 0, none⟩) 1 1] (by with_unfolding_all rfl) entG (some 51) (by rfl) _ (unhide H4 _ _ (unhide HGX3).1.1 (unhide HV)) ?_
    rintro _ W5 ⟨G2, c5, rfl, hG, hl5, hbe⟩
    have HGW5 := hide ((unhide HGX3).below hbe)
    have HF5 : Hid (N + 2 ≤ G2) := hide (Nat.le_trans (unhide HGX3).sz hG)
    have HL5 := hide hl5
    have HL4b := hide ((unhide HL4).1.below hbe)
    refine hK _ _ (fun _ => (unhide HGW5).1) ?_
    clear hK K hG hl5 hbe
    simp only [Act.put, List.setIfInBounds_toArray, List.set_cons_zero, List.set_cons_succ]
    refine wpAnyL_one (i := 16) (by kernel_rfl) rfl (by rfl) fun K hK => ?_
    refine wp_val (.agg #[.bool false, .slice none 0 0, .slice (some ⟨G, 0, none⟩) k2 c4, .slice (some ⟨G2, 0, none⟩) g2 c5]) (by go_simp) (some 52) (by rfl) ?_
    refine hK _ _ (fun _ => (unhide HGW5).1) ?_
    clear hK K
    simp only [Act.put, List.setIfInBounds_toArray, List.set_cons_zero, List.set_cons_succ]
    refine wpAnyL_one (i := 17) (by kernel_rfl) rfl (by rfl) fun K hK => ?_
    refine wp_call_fn 87 _ _ (by rfl) #[.agg #[.bool false, .slice none 0 0, .slice (some ⟨G, 0, none⟩) k2 c4, .slice (some ⟨G2, 0, none⟩) g2 c5]] (by with_unfolding_all rfl) entC (some 53) (by rfl) _ (unhide H5 W5 G c4 G2 c5 (unhide HL4b) (unhide HL4).2 (unhide HL5).1 (unhide HL5).2) ?_
    rintro _ W6 ⟨ko, kq, kp, go, gq, gp, E, rfl, hE, hbe⟩
    have HGW6 := hide ((unhide HGW5).below hbe)
    have HE := hide hE
    have HLA := hide ((unhide HL4b).below hbe)
    have HLB := hide ((unhide HL5).1.below hbe)
    refine hK _ _ (fun _ => (unhide HGW6).1) ?_
    clear hK K hE hbe
    simp only [Act.put, List.setIfInBounds_toArray, List.set_cons_zero, List.set_cons_succ]
    refine wpAnyL_take 18 54 (.agg #[.bool false, .slice none 0 0, .slice ko kq kp, .slice go gq gp]) [] rfl rfl (by kernel_rfl) (by kernel_rfl) (by kernel_rfl) (by kernel_rfl) (by kernel_rfl) (fun _ _ _ h => h) (by rfl) (fun u _ => by go_simp) (unhide HGW6).1 ?_
    simp only [Act.put, List.setIfInBounds_toArray, List.set_cons_zero, List.set_cons_succ]
    refine wpAnyL_one (i := 19) (by kernel_rfl) rfl (by rfl) fun K hK => ?_
    refine wp_val (.int .i64 E) (by go_simp) (some 55) (by rfl) ?_
    refine hK _ _ (fun _ => (unhide HGW6).1) ?_
    clear hK K
    simp only [Act.put, List.setIfInBounds_toArray, List.set_cons_zero, List.set_cons_succ]
    refine wpAnyL_one (i := 20) (by kernel_rfl) rfl (by rfl) fun K hK => ?_
    refine wp_store_row 26 (.tmp 8) (.tmp 54) (by rfl) (N + 1) #[.bool false, .slice none 0 0, .slice ko kq kp, .slice go gq gp] (by rfl) (by rfl) 26 _ (unhide HGW6).2 nodeInfo rfl (node_one _ _ _ _ _ _ _ _ _ _) ?_
    obtain ⟨W8, HE8⟩ : ∃ W8, W8 = W6.setRow (N + 1) #[.bool false, .slice none 0 0, .slice ko kq kp, .slice go gq gp] := ⟨_, rfl⟩
    have HX8 : Hid (W8.heap[N + 1]? = some (.cells #[.bool false, .slice none 0 0, .slice ko kq kp, .slice go gq gp] 26 (0, 0))) := by rw [HE8]; exact heapRow_same (unhide HGW6).2 _
    have HZ : Hid (Below N u W8 ∧ Lies W8 (some ⟨G, 0, none⟩) (flatK m.keys) ∧ Lies W8 (some ⟨G2, 0, none⟩) (flatG m.kids)) := by
      rw [HE8]
      exact ⟨belowRow (unhide HGW6).1.1 (Nat.le_succ N) _, (unhide HLA).setRow (N + 1) _ (fun b o e => by cases e; have := unhide HF4; omega), (unhide HLB).setRow (N + 1) _ (fun b o e => by cases e; have := unhide HF5; omega)⟩
    rw [← HE8]
    refine hK _ _ (fun _ => ⟨(unhide HZ).1, by rw [HE8]; exact (heapRow_other _ _ _ _ (by omega)).trans (unhide HGW6).1.2⟩) ?_
    clear hK K HE8
    simp only [Act.put, List.setIfInBounds_toArray]
    refine wpAnyL_one (i := 21) (by kernel_rfl) rfl (by rfl) fun K hK => ?_
    refine wp_val (.int .i64 E) (by go_simp) (some 9) (by rfl) ?_
    refine hK _ _ (fun h => absurd rfl h) ?_
    clear hK K
    simp only [Act.put]
    refine wpAnyL_done (by kernel_rfl) ?_ _
    go_wp2
    refine bodyPost_ret (results_cell_tmp rfl _ _ (N + 1) 26 #[.bool false, .slice none 0 0, .slice ko kq kp, .slice go gq gp] (0, 0) _ rfl (unhide HX8) nodeUnd rfl nodeInfo) rfl ?_
    exact ⟨_, E, rfl, unhide HFIN W8 G c4 G2 c5 _ _ _ _ _ _ E (unhide HE) (unhide HZ).2.1 (unhide HL4).2 (unhide HZ).2.2 (unhide HL5).2, (unhide HZ).1⟩

end Go.Proofs.Ytppmpomfihalfaa
