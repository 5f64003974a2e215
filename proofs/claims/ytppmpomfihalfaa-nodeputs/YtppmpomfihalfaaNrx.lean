/- Nodes: over, the walk (written by mknrx.py). -/
import Derived.Test.YtppmpomfihalfaaNrw
import Derived.Test.YtppmpomfihalfaaNrj
namespace Go.Proofs.Ytppmpomfihalfaa
open Go.RowKit

theorem wp_eff {P : Program} {o : Oper} {a : Act} {w : World} {K : Act → World → Prop} {Q : Exit → Act → World → Prop} (w' : World) (hrun : (execOp a.eval o).run P w = .ok .skip w') (d : Option Tmp) (hd : o.dst = d) (h : K (a.put d undef) w') : o.wp P a w K Q := by
  subst hd
  unfold Oper.wp
  rw [hrun, Oper.upon_skip]
  exact h
theorem cellInf2 : (Try.prog.info? 66).map (·.size) = some 2 := by kernel_rfl
theorem entR : ∀ args (w : World), (callFunc 77 args).run Try.prog w = .ok (.enter 77 args) w := by
  intro args w
  go_simp
/-- with what is known of lengths and sizes -/
structure Ovs (u w : World) (N : Nat) (bx : Array Value) (B : Nat) (b : Nv) (c4 k4 g4 : Nat) (cs : List Cl) (ks : List ByteArray) (gs : List Nat) : Prop where
  o : Ov u w N bx B b cs ks gs
  lc : cs.length = c4
  lk : ks.length = k4
  lg : gs.length = g4
  sc : ∀ c ∈ cs, c.key.size ≤ 140737488355328 ∧ c.val.size ≤ 140737488355328
  sg : ∀ k ∈ gs, k < 4294967296
section
variable {u w w' : World} {N B c4 k4 g4 : Nat} {bx : Array Value} {b : Nv} {cs : List Cl} {ks : List ByteArray} {gs : List Nat}
theorem Ovs.below (h : Ovs u w N bx B b c4 k4 g4 cs ks gs) (hb : Below w.heap.size w w') : Ovs u w' N bx B b c4 k4 g4 cs ks gs := ⟨h.o.below hb, h.lc, h.lk, h.lg, h.sc, h.sg⟩
theorem Ovs.drew (h : Ovs u w N bx B b c4 k4 g4 cs ks gs) : Ovs u w.drew N bx B b c4 k4 g4 cs ks gs := h.below (belowDrewN (Below.refl _ _) 1)
theorem Ovs.setC (h : Ovs u w N bx B b c4 k4 g4 cs ks gs) {g : Nat} (hg : b.ca = some ⟨g, 0, none⟩) (k : Nat) (q p : ByteArray) (hq : q.size ≤ 140737488355328) (hp : p.size ≤ 140737488355328) : Ovs u (w.setCells g (k * 2) [.string q, .string p]) N bx B b c4 k4 g4 (cs.set k ⟨q, p⟩) ks gs :=
  ⟨h.o.setC hg k q p, by rw [List.length_set]; exact h.lc, h.lk, h.lg, fun c hc => by
    rcases List.mem_or_eq_of_mem_set hc with h1 | rfl
    · exact h.sc c h1
    · exact ⟨hq, hp⟩, h.sg⟩
theorem Ovs.setK (h : Ovs u w N bx B b c4 k4 g4 cs ks gs) {g : Nat} (hg : b.ka = some ⟨g, 0, none⟩) (k : Nat) (q : ByteArray) : Ovs u (w.setCell ⟨g, k, none⟩ (.string q)) N bx B b c4 k4 g4 cs (ks.set k q) gs :=
  ⟨h.o.setK hg k q, h.lc, by rw [List.length_set]; exact h.lk, h.lg, h.sc, h.sg⟩
theorem Ovs.setG (h : Ovs u w N bx B b c4 k4 g4 cs ks gs) {g : Nat} (hg : b.ga = some ⟨g, 0, none⟩) (k q : Nat) (hq : q < 4294967296) : Ovs u (w.setCell ⟨g, k, none⟩ (.int .u32 (q : Int))) N bx B b c4 k4 g4 cs ks (gs.set k q) :=
  ⟨h.o.setG hg k q, h.lc, h.lk, by rw [List.length_set]; exact h.lg, h.sc, fun c hc => by
    rcases List.mem_or_eq_of_mem_set hc with h1 | rfl
    · exact h.sg c h1
    · exact hq⟩
theorem Ovs.thereC (h : Ovs u w N bx B b c4 k4 g4 cs ks gs) {g k : Nat} (hg : b.ca = some ⟨g, 0, none⟩) (hk : k < c4) : w.there g (k * 2) 2 := fun j hj => by
  have h1 := h.o.own.c
  rw [hg] at h1
  have hl := h1.1
  have hlc := h.lc
  refine ⟨?_, h1.frozenAt _⟩
  rw [h1.cellAt (k * 2 + j) (by omega), List.getElem?_eq_getElem (by omega)]
  rfl
theorem Ovs.atK (h : Ovs u w N bx B b c4 k4 g4 cs ks gs) {g j : Nat} (hg : b.ka = some ⟨g, 0, none⟩) (hj : j < k4) : ∃ x, w.cell? ⟨g, j, none⟩ = some x := by
  have h1 := h.o.own.k
  rw [hg] at h1
  have hl := h1.1
  have hlk := h.lk
  rw [h1.cellAt j (by omega), List.getElem?_eq_getElem (by omega)]
  exact ⟨_, rfl⟩
theorem Ovs.frK (h : Ovs u w N bx B b c4 k4 g4 cs ks gs) {g : Nat} (hg : b.ka = some ⟨g, 0, none⟩) (j : Nat) : w.frozen? ⟨g, j, none⟩ = false := by
  have h1 := h.o.own.k
  rw [hg] at h1
  exact h1.frozenAt _
theorem Ovs.atG (h : Ovs u w N bx B b c4 k4 g4 cs ks gs) {g j : Nat} (hg : b.ga = some ⟨g, 0, none⟩) (hj : j < g4) : ∃ x, w.cell? ⟨g, j, none⟩ = some x := by
  have h1 := h.o.own.g
  rw [hg] at h1
  have hl := h1.1
  have hlk := h.lg
  rw [h1.cellAt j (by omega), List.getElem?_eq_getElem (by omega)]
  exact ⟨_, rfl⟩
theorem Ovs.frG (h : Ovs u w N bx B b c4 k4 g4 cs ks gs) {g : Nat} (hg : b.ga = some ⟨g, 0, none⟩) (j : Nat) : w.frozen? ⟨g, j, none⟩ = false := by
  have h1 := h.o.own.g
  rw [hg] at h1
  exact h1.frozenAt _
/-- what is left of it -/
theorem Ovs.out {lf : Bool} {cn kn gn : Nat} (h : Ovs u w N bx B b c4 k4 g4 cs ks gs) (hc : cn ≤ c4) (hk : kn ≤ k4) (hg : gn ≤ g4) (hl : c4 ≤ 140737488355328 ∧ k4 ≤ 140737488355328 ∧ g4 ≤ 140737488355328) : NdAt w ⟨lf, cs.take cn, ks.take kn, gs.take gn⟩ b := by
  have h1 := own_liesS h.o.own.c
  have h2 := own_liesS h.o.own.k
  have h3 := own_liesS h.o.own.g
  have l1 := h1.1
  have l2 := h2.1
  have l3 := h3.1
  have c1 := h1.2.1
  have c2 := h2.2.1
  have c3 := h3.2.1
  have e1 := h.lc
  have e2 := h.lk
  have e3 := h.lg
  rw [← List.take_append_drop cn cs, flatC_app] at l1
  rw [← List.take_append_drop kn ks, flatK_app] at l2
  rw [← List.take_append_drop gn gs, flatG_app] at l3
  refine ⟨l1.pre, l2.pre, l3.pre, fun k hk => h.sg k (List.mem_of_mem_take hk), ?_, fun c hc => h.sc c (List.mem_of_mem_take hc), ?_⟩
  · simp only [List.length_take]; omega
  · simp only [List.length_take]; omega
end
theorem maC_small (k : Nat) : (maC k).key.size ≤ 140737488355328 ∧ (maC k).val.size ≤ 140737488355328 := by
  constructor
  · have e : (maC k).key.size = 4 := rfl
    rw [e]; omega
  · have h := enc_le (97 + (k : Int))
    have e : (maC k).val = Utf8.encode (97 + (k : Int)) := by simp only [maC]
    rw [e]; omega
theorem Ovs.start {u w : World} {N B : Nat} {n : Nd} {b : Nv} (hl : Le u B n b) (hb : Below u.heap.size u w) (bx : Array Value) (hx : w.heap[N]? = some (.cells bx 26 (0, 0))) : Ovs u w N bx B b (n.cells.length + 40) (n.keys.length + 40) (n.kids.length + 40) (wC n.cells 40) (wK n.keys 40) (wG n.kids 40) := by
  refine ⟨⟨(Upb.refl u b).of_below hb, hx, own_keep hl.own.c (fun g hg => hb.block g (hl.own.c.lt g hg).2), own_keep hl.own.k (fun g hg => hb.block g (hl.own.k.lt g hg).2), own_keep hl.own.g (fun g hg => hb.block g (hl.own.g.lt g hg).2)⟩, wC_len _ _, wK_len _ _, wG_len _ _, fun c hc => ?_, fun k hk => ?_⟩
  · rcases List.mem_append.1 hc with h1 | h1
    · exact hl.at_.str c h1
    · obtain ⟨k, _, rfl⟩ := List.mem_map.1 h1
      exact maC_small k
  · rcases List.mem_append.1 hk with h1 | h1
    · exact hl.at_.kid k h1
    · obtain ⟨j, hj, rfl⟩ := List.mem_map.1 h1
      have := List.mem_range.1 hj
      show 1000000 + j < _
      omega
set_option maxRecDepth 100000 in
set_option maxHeartbeats 8000000 in
theorem lOver (n : Nd) (b : Nv) (B : Nat) (u : World) (hl : Le u B n b) (hb : n.Few) : Calls Try.prog 23 #[b.v n] u fun e u' => e = .returned (.tuple #[]) ∧ ∃ m : Nd, m.leaf = n.leaf ∧ (m.cells.length = n.cells.length ∧ m.keys.length = n.keys.length ∧ m.kids.length = n.kids.length) ∧ NdAt u' m b ∧ Upb u u' b := by
  have hb1 : (n.cells.length : Int) ≤ 35184372087808 := by have := hb.1; omega
  have hb2 : (n.keys.length : Int) ≤ 35184372087808 := by have := hb.2.1; omega
  have hb3 : (n.kids.length : Int) ≤ 35184372087808 := by have := hb.2.2; omega
  obtain ⟨⟨_, g1, hg1⟩, ⟨_, g2, hg2⟩, ⟨_, g3, hg3⟩, _⟩ := hl.pos
  have HST := hide (fun (w : World) (hw : Below u.heap.size u w) (bx : Array Value) (hx : w.heap[u.heap.size]? = some (.cells bx 26 (0, 0))) => Ovs.start (N := u.heap.size) hl hw bx hx)
  have HR := hide (fun (i : Nat) (hi : (i : Int) ≤ 35184372087848) (v : World) => nRising i hi v)
  have HQ : Hid (∀ (w' : World) (cs : List Cl) (ks : List ByteArray) (gs : List Nat) (bx : Array Value) (N : Nat), Ovs u w' N bx B b (n.cells.length + 40) (n.keys.length + 40) (n.kids.length + 40) cs ks gs → ∃ m : Nd, m.leaf = n.leaf ∧ (m.cells.length = n.cells.length ∧ m.keys.length = n.keys.length ∧ m.kids.length = n.kids.length) ∧ NdAt w' m b ∧ Upb u w' b) := fun w' cs ks gs bx N h => by
    have e1 := h.lc
    have e2 := h.lk
    have e3 := h.lg
    refine ⟨⟨n.leaf, cs.take n.cells.length, ks.take n.keys.length, gs.take n.kids.length⟩, rfl, ⟨?_, ?_, ?_⟩, h.out (by omega) (by omega) (by omega) ⟨by omega, by omega, by omega⟩, h.o.up⟩
    · show (cs.take _).length = _
      rw [List.length_take]; omega
    · show (ks.take _).length = _
      rw [List.length_take]; omega
    · show (gs.take _).length = _
      rw [List.length_take]; omega
  obtain ⟨N, hN⟩ : ∃ N, N = u.heap.size := ⟨_, rfl⟩
  have HN := hide hN
  rw [← hN] at HST
  clear hN hl hb
  rw [Nv.v_eq]
  obtain ⟨da, dc, la, lc, ha, hc⟩ := b
  have hg1 : da = some ⟨g1, 0, none⟩ := hg1
  have hg2 : la = some ⟨g2, 0, none⟩ := hg2
  have hg3 : ha = some ⟨g3, 0, none⟩ := hg3
  subst hg1 hg2 hg3
  generalize wC n.cells 40 = LC at *
  generalize wK n.keys 40 = LK at *
  generalize wG n.kids 40 = LG at *
  generalize n.cells.length = cn at *
  generalize n.keys.length = kn at *
  generalize n.kids.length = gn at *
  generalize n.leaf = lf at *
  go_enter Try.func23, Try.ntmps23
  go_wp2_with (first
    | ((with_reducible refine wpList_box_node (by rfl) (.tmp 0) (by rfl) (some 1) (by rfl) N (unhide HN) lf (some ⟨g1, 0, none⟩) cn dc (some ⟨g2, 0, none⟩) kn lc (some ⟨g3, 0, none⟩) gn hc (by with_unfolding_all rfl) ?_); intro W0 HX0 HB0 HS0; simp only [Act.put, List.setIfInBounds_toArray, List.set_cons_zero, List.set_cons_succ])
    | fail)
  have HO0 := hide (unhide HST W0 (unhide HB0) _ (unhide HX0))
  clear HST HX0 HB0 HS0
  go_loopw [2] (fun i wr => ∃ (k : Nat) (cs : List Cl), k ≤ cn ∧ i = .int .i64 k ∧ Hid (Ovs u wr N #[.bool lf, .slice (some ⟨g1, 0, none⟩) cn dc, .slice (some ⟨g2, 0, none⟩) kn lc, .slice (some ⟨g3, 0, none⟩) gn hc] B ⟨some ⟨g1, 0, none⟩, dc, some ⟨g2, 0, none⟩, lc, some ⟨g3, 0, none⟩, hc⟩ (cn + 40) (kn + 40) (gn + 40) cs LK LG)) (fun i _ => cn - (intOf i).toNat)
  case atStart => exact ⟨0, LC, Nat.zero_le _, rfl, unhide HO0⟩
  case round =>
    clear HO0
    obtain ⟨k, cs, hk, rfl, HI⟩ := hrel
    obtain ⟨y0, y1, y2, y3⟩ := box4 (unhide HI).o.box
    by_cases hlt : k < cn
    · have hki : (k : Int) < (cn : Int) := by omega
      have hk2 : (k : Int) ≤ 35184372087848 := by omega
      obtain ⟨r, hr⟩ : ∃ r, r = k % 26 := ⟨_, rfl⟩
      have e1 : (k : Int).tmod 26 = (r : Int) := by rw [hr]; simp [Int.tmod]
      have hrb : (r : Int) ≤ 25 := by omega
      have e3 : IntKind.i64.wrap (97 + (r : Int)) = 97 + (r : Int) := by rw [IntKind.wrap_i64]; omega
      have e4 : IntKind.i32.wrap (97 + (r : Int)) = 97 + (r : Int) := by unfold IntKind.wrap; simp [IntKind.bits, IntKind.signed]; omega
      have hix : ∀ W, (Instr.indexAt 22 (.slice (some ⟨g1, 0, none⟩) cn dc) (.int .i64 (k : Int))).run Try.prog W = .ok (.pointer (some ⟨g1, k * 2, none⟩)) W := fun W => by have := ixCells g1 0 cn dc k hlt W; rwa [Nat.zero_add] at this
      clear hr
      go_wp2_with fail
      clear y0 y1 y2 y3
      have hmix : Try.prog.follows .mixedOrders = true := by kernel_rfl
      refine wp_region_last (fun W => Ovs u W N #[.bool lf, .slice (some ⟨g1, 0, none⟩) cn dc, .slice (some ⟨g2, 0, none⟩) kn lc, .slice (some ⟨g3, 0, none⟩) gn hc] B ⟨some ⟨g1, 0, none⟩, dc, some ⟨g2, 0, none⟩, lc, some ⟨g3, 0, none⟩, hc⟩ (cn + 40) (kn + 40) (gn + 40) cs LK LG) 12 hmix (unhide HI).drew fun hS => ?_
      refine wpAnyL_take 0 12 (.pointer (some ⟨N, 1, none⟩)) [] rfl rfl (by kernel_rfl) (by kernel_rfl) (by kernel_rfl) (by kernel_rfl) (by kernel_rfl) (fun _ _ _ h => h) (by rfl) (fun u _ => by go_simp) hS ?_
      simp only [Act.put, List.setIfInBounds_toArray, List.set_cons_zero, List.set_cons_succ]
      refine wpAnyL_take 1 13 (.slice (some ⟨g1, 0, none⟩) cn dc) [] rfl rfl (by kernel_rfl) (by kernel_rfl) (by kernel_rfl) (by kernel_rfl) (by kernel_rfl) (fun _ _ _ h => h) (by rfl) (fun W hW => by obtain ⟨x0, x1, x2, x3⟩ := box4 hW.o.box; go_simp) hS ?_
      simp only [Act.put, List.setIfInBounds_toArray, List.set_cons_zero, List.set_cons_succ]
      refine wpAnyL_take 2 14 (.int .i64 (k : Int)) [] rfl rfl (by kernel_rfl) (by kernel_rfl) (by kernel_rfl) (by kernel_rfl) (by kernel_rfl) (fun _ _ _ h => h) (by rfl) (fun u _ => by go_simp) hS ?_
      simp only [Act.put, List.setIfInBounds_toArray, List.set_cons_zero, List.set_cons_succ]
      refine wpAnyL_take 3 15 (.int .i64 (k : Int)) [] rfl rfl (by kernel_rfl) (by kernel_rfl) (by kernel_rfl) (by kernel_rfl) (by kernel_rfl) (fun _ _ _ h => h) (by rfl) (fun u _ => by go_simp) hS ?_
      simp only [Act.put, List.setIfInBounds_toArray, List.set_cons_zero, List.set_cons_succ]
      refine wpAnyL_take 5 17 (.int .i64 (k : Int)) [] rfl rfl (by kernel_rfl) (by kernel_rfl) (by kernel_rfl) (by kernel_rfl) (by kernel_rfl) (fun _ _ _ h => h) (by rfl) (fun u _ => by go_simp) hS ?_
      simp only [Act.put, List.setIfInBounds_toArray, List.set_cons_zero, List.set_cons_succ]
      refine wpAnyL_take 6 18 (.int .i64 (r : Int)) [] rfl rfl (by kernel_rfl) (by kernel_rfl) (by kernel_rfl) (by kernel_rfl) (by kernel_rfl) (fun _ _ _ h => h) (by rfl) (fun W hW => by go_simp) hS ?_
      simp only [Act.put, List.setIfInBounds_toArray, List.set_cons_zero, List.set_cons_succ]
      refine wpAnyL_take 7 19 (.int .i64 (97 + (r : Int))) [] rfl rfl (by kernel_rfl) (by kernel_rfl) (by kernel_rfl) (by kernel_rfl) (by kernel_rfl) (fun _ _ _ h => h) (by rfl) (fun W hW => by go_simp) hS ?_
      simp only [Act.put, List.setIfInBounds_toArray, List.set_cons_zero, List.set_cons_succ]
      refine wpAnyL_take 8 20 (.int .i32 (97 + (r : Int))) [] rfl rfl (by kernel_rfl) (by kernel_rfl) (by kernel_rfl) (by kernel_rfl) (by kernel_rfl) (fun _ _ _ h => h) (by rfl) (fun W hW => by go_simp) hS ?_
      simp only [Act.put, List.setIfInBounds_toArray, List.set_cons_zero, List.set_cons_succ]
      refine wpAnyL_take 9 21 (.string (Utf8.encode (97 + (r : Int)))) [] rfl rfl (by kernel_rfl) (by kernel_rfl) (by kernel_rfl) (by kernel_rfl) (by kernel_rfl) (fun _ _ _ h => h) (by rfl) (fun W hW => by go_simp) hS ?_
      simp only [Act.put, List.setIfInBounds_toArray, List.set_cons_zero, List.set_cons_succ]
      refine wpAnyL_one (i := 4) (by kernel_rfl) rfl (by rfl) fun K hK => ?_
      refine wp_call_fn 77 _ _ (by rfl) #[.int .i64 (k : Int)] (by with_unfolding_all rfl) entR (some 16) (by rfl) _ (unhide HR k hk2 _) ?_
      rintro _ W4 ⟨s, rfl, hs4, hb4⟩
      have hS4 := hS.below hb4
      refine hK _ _ (fun _ => hS4) ?_
      clear hK K hS hb4
      have hS := hS4
      simp only [Act.put, List.setIfInBounds_toArray, List.set_cons_zero, List.set_cons_succ]
      refine wpAnyL_one (i := 10) (by kernel_rfl) rfl (by rfl) fun K hK => ?_
      refine wp_val (.agg #[.string s, .string (Utf8.encode (97 + (r : Int)))]) (by go_simp) (some 22) (by rfl) ?_
      refine hK _ _ (fun _ => hS) ?_
      clear hK K
      simp only [Act.put, List.setIfInBounds_toArray, List.set_cons_zero, List.set_cons_succ]
      refine wpAnyL_one (i := 11) (by kernel_rfl) rfl (by rfl) fun K hK => ?_
      refine wp_val (.pointer (some ⟨g1, k * 2, none⟩)) (by go_simp) (some 23) (by rfl) ?_
      refine hK _ _ (fun _ => hS) ?_
      clear hK K
      simp only [Act.put, List.setIfInBounds_toArray, List.set_cons_zero, List.set_cons_succ]
      refine wpAnyL_one (i := 12) (by kernel_rfl) rfl (by rfl) fun K hK => ?_
      refine wp_store_mid 66 (.tmp 23) (.tmp 22) (by rfl) g1 (k * 2) #[.string s, .string (Utf8.encode (97 + (r : Int)))] (by rfl) (by rfl) (hS.thereC rfl (by omega)) cellInf2 (by simp [Value.oneCell']) ?_
      have HS5 := hide (hS.setC (g := g1) rfl k s (Utf8.encode (97 + (r : Int))) (by rw [hs4]; omega) (Nat.le_trans (enc_le _) (by omega)))
      show K _ (W4.setCells g1 (k * 2) [.string s, .string (Utf8.encode (97 + (r : Int)))])
      generalize W4.setCells g1 (k * 2) [.string s, .string (Utf8.encode (97 + (r : Int)))] = W5 at *
      refine hK _ _ (fun h => absurd rfl h) ?_
      clear hK K hS hS4
      simp only [Act.put]
      refine wpAnyL_done (by kernel_rfl) ?_ _
      go_wp2
      go_roundw
      case rel => exact ⟨k + 1, _, by omega, by go_num, unhide HS5⟩
      case measure => simp [intOf]; omega
    · obtain rfl : k = cn := by omega
      have hki : ¬ (k : Int) < (k : Int) := by omega
      go_wp2_with fail
      go_loopw [3] (fun i wq => ∃ (m : Nat) (ks : List ByteArray), m ≤ kn ∧ i = .int .i64 m ∧ Hid (Ovs u wq N #[.bool lf, .slice (some ⟨g1, 0, none⟩) k dc, .slice (some ⟨g2, 0, none⟩) kn lc, .slice (some ⟨g3, 0, none⟩) gn hc] B ⟨some ⟨g1, 0, none⟩, dc, some ⟨g2, 0, none⟩, lc, some ⟨g3, 0, none⟩, hc⟩ (k + 40) (kn + 40) (gn + 40) cs ks LG)) (fun i _ => kn - (intOf i).toNat)
      case atStart => exact ⟨0, LK, Nat.zero_le _, rfl, unhide HI⟩
      case round =>
        clear HI y0 y1 y2 y3
        obtain ⟨m, ks, hm, rfl, HI⟩ := hrel
        obtain ⟨y0, y1, y2, y3⟩ := box4 (unhide HI).o.box
        by_cases hmt : m < kn
        · have hmi : (m : Int) < (kn : Int) := by omega
          have hm2 : (m : Int) ≤ 35184372087848 := by omega
          have hix : ∀ W, (Instr.indexAt 23 (.slice (some ⟨g2, 0, none⟩) kn lc) (.int .i64 (m : Int))).run Try.prog W = .ok (.pointer (some ⟨g2, m, none⟩)) W := fun W => by have := ixStrs g2 0 kn lc m hmt W; rwa [Nat.zero_add] at this
          go_wp2_with fail
          clear y0 y1 y2 y3
          have hmix : Try.prog.follows .mixedOrders = true := by kernel_rfl
          refine wp_region_last (fun W => Ovs u W N #[.bool lf, .slice (some ⟨g1, 0, none⟩) k dc, .slice (some ⟨g2, 0, none⟩) kn lc, .slice (some ⟨g3, 0, none⟩) gn hc] B ⟨some ⟨g1, 0, none⟩, dc, some ⟨g2, 0, none⟩, lc, some ⟨g3, 0, none⟩, hc⟩ (k + 40) (kn + 40) (gn + 40) cs ks LG) 6 hmix (unhide HI).drew fun hS => ?_
          refine wpAnyL_take 0 31 (.pointer (some ⟨N, 2, none⟩)) [] rfl rfl (by kernel_rfl) (by kernel_rfl) (by kernel_rfl) (by kernel_rfl) (by kernel_rfl) (fun _ _ _ h => h) (by rfl) (fun u _ => by go_simp) hS ?_
          simp only [Act.put, List.setIfInBounds_toArray, List.set_cons_zero, List.set_cons_succ]
          refine wpAnyL_take 1 32 (.slice (some ⟨g2, 0, none⟩) kn lc) [] rfl rfl (by kernel_rfl) (by kernel_rfl) (by kernel_rfl) (by kernel_rfl) (by kernel_rfl) (fun _ _ _ h => h) (by rfl) (fun W hW => by obtain ⟨x0, x1, x2, x3⟩ := box4 hW.o.box; go_simp) hS ?_
          simp only [Act.put, List.setIfInBounds_toArray, List.set_cons_zero, List.set_cons_succ]
          refine wpAnyL_take 2 33 (.int .i64 (m : Int)) [] rfl rfl (by kernel_rfl) (by kernel_rfl) (by kernel_rfl) (by kernel_rfl) (by kernel_rfl) (fun _ _ _ h => h) (by rfl) (fun u _ => by go_simp) hS ?_
          simp only [Act.put, List.setIfInBounds_toArray, List.set_cons_zero, List.set_cons_succ]
          refine wpAnyL_take 3 34 (.int .i64 (m : Int)) [] rfl rfl (by kernel_rfl) (by kernel_rfl) (by kernel_rfl) (by kernel_rfl) (by kernel_rfl) (fun _ _ _ h => h) (by rfl) (fun u _ => by go_simp) hS ?_
          simp only [Act.put, List.setIfInBounds_toArray, List.set_cons_zero, List.set_cons_succ]
          refine wpAnyL_one (i := 4) (by kernel_rfl) rfl (by rfl) fun K hK => ?_
          refine wp_call_fn 77 _ _ (by rfl) #[.int .i64 (m : Int)] (by with_unfolding_all rfl) entR (some 35) (by rfl) _ (unhide HR m hm2 _) ?_
          rintro _ W4 ⟨s, rfl, hs4, hb4⟩
          have hS4 := hS.below hb4
          refine hK _ _ (fun _ => hS4) ?_
          clear hK K hS hb4
          have hS := hS4
          simp only [Act.put, List.setIfInBounds_toArray, List.set_cons_zero, List.set_cons_succ]
          refine wpAnyL_one (i := 5) (by kernel_rfl) rfl (by rfl) fun K hK => ?_
          refine wp_val (.pointer (some ⟨g2, m, none⟩)) (by go_simp) (some 36) (by rfl) ?_
          refine hK _ _ (fun _ => hS) ?_
          clear hK K
          simp only [Act.put, List.setIfInBounds_toArray, List.set_cons_zero, List.set_cons_succ]
          refine wpAnyL_one (i := 6) (by kernel_rfl) rfl (by rfl) fun K hK => ?_
          obtain ⟨x, hx⟩ := hS.atK (g := g2) rfl (j := m) (by omega)
          have hfz := hS.frK (g := g2) rfl m
          refine wp_eff (W4.setCell ⟨g2, m, none⟩ (.string s)) (by go_simp) none (by rfl) ?_
          have HS5 := hide (hS.setK (g := g2) rfl m s)
          generalize W4.setCell ⟨g2, m, none⟩ (.string s) = W5 at *
          refine hK _ _ (fun h => absurd rfl h) ?_
          clear hK K hS hS4 hx hfz
          simp only [Act.put]
          refine wpAnyL_done (by kernel_rfl) ?_ _
          go_wp2
          go_roundw
          case rel => exact ⟨m + 1, _, by omega, by go_num, unhide HS5⟩
          case measure => simp [intOf]; omega
        · obtain rfl : m = kn := by omega
          have hmi : ¬ (m : Int) < (m : Int) := by omega
          go_wp2_with fail
          go_loopw [4] (fun i wq => ∃ (r : Nat) (gs : List Nat), r ≤ gn ∧ i = .int .i64 r ∧ Hid (Ovs u wq N #[.bool lf, .slice (some ⟨g1, 0, none⟩) k dc, .slice (some ⟨g2, 0, none⟩) m lc, .slice (some ⟨g3, 0, none⟩) gn hc] B ⟨some ⟨g1, 0, none⟩, dc, some ⟨g2, 0, none⟩, lc, some ⟨g3, 0, none⟩, hc⟩ (k + 40) (m + 40) (gn + 40) cs ks gs)) (fun i _ => gn - (intOf i).toNat)
          case atStart => exact ⟨0, LG, Nat.zero_le _, rfl, unhide HI⟩
          case round =>
            clear HI y0 y1 y2 y3
            obtain ⟨r, gs, hr, rfl, HI⟩ := hrel
            obtain ⟨y0, y1, y2, y3⟩ := box4 (unhide HI).o.box
            by_cases hrt : r < gn
            · have hri : (r : Int) < (gn : Int) := by omega
              have hix : ∀ W, (Instr.indexAt 24 (.slice (some ⟨g3, 0, none⟩) gn hc) (.int .i64 (r : Int))).run Try.prog W = .ok (.pointer (some ⟨g3, r, none⟩)) W := fun W => by have := ixKids g3 0 gn hc r hrt W; rwa [Nat.zero_add] at this
              obtain ⟨q0, hq0⟩ : ∃ q : Nat, q = 77 + r := ⟨_, rfl⟩
              obtain ⟨q, hq⟩ : ∃ q : Nat, q = q0 % 4294967296 := ⟨_, rfl⟩
              have hql : q < 4294967296 := by omega
              have hcv : ∀ W : World, (convert 3 50 (.int .i64 (77 + (r : Int)))).run Try.prog W = .ok (.int .u32 (q : Int)) W := fun W => by
                have e : (77 + (r : Int)) = (q0 : Int) := by omega
                rw [e]
                clear e hq0 hrt hri hr
                have hw : IntKind.u32.wrap (q0 : Int) = (q : Int) := by rw [IntKind.wrap_u32]; omega
                go_simp
              obtain ⟨x, hx⟩ := (unhide HI).atG (g := g3) rfl (j := r) (by omega)
              have hfz := (unhide HI).frG (g := g3) rfl r
              have HS5 := hide ((unhide HI).setG (g := g3) rfl r q hql)
              clear hq hq0 hql
              go_wp2
              go_roundw
              case rel => exact ⟨r + 1, _, by omega, by go_num, unhide HS5⟩
              case measure => simp [intOf]; omega
            · obtain rfl : r = gn := by omega
              have hri : ¬ (r : Int) < (r : Int) := by omega
              have HE := hide (unhide HQ _ _ _ _ _ _ (unhide HI))
              go_wp2
              go_returns
              exact ⟨rfl, unhide HE⟩
end Go.Proofs.Ytppmpomfihalfaa
