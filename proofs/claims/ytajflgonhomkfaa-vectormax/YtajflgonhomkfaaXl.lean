/- Vectors: a vector out of any dots. -/
import Derived.Test.YtajflgonhomkfaaXk
namespace Go.Proofs.Ytajflgonhomkfaa
open Go.RowKit

theorem flatD_set : ∀ (l : List (Nat × Nat)) (k : Nat) (q p : Nat), ((flatD l).set (k * 2) (.int .u32 (q : Int))).set (k * 2 + 1) (.int .u64 (p : Int)) = flatD (l.set k (q, p))
  | [], k, q, p => by simp [flatD]
  | c :: cs, 0, q, p => by simp [flatD, dcs]
  | c :: cs, k + 1, q, p => by
    have ih := flatD_set cs k q p
    have e : flatD (c :: cs) = .int .u32 (c.1 : Int) :: .int .u64 (c.2 : Int) :: flatD cs := rfl
    rw [e, show (k + 1) * 2 = k * 2 + 1 + 1 by omega, List.set_cons_succ, List.set_cons_succ, List.set_cons_succ, List.set_cons_succ, ih]
    rfl
section
variable {w : World} {B : Nat} {l : List (Nat × Nat)} {g c : Nat}
theorem OwnD.set (h : OwnD w B l (some ⟨g, 0, none⟩) c) (k q p : Nat) : OwnD (w.setCells g (k * 2) [.int .u32 (q : Int), .int .u64 (p : Int)]) B (l.set k (q, p)) (some ⟨g, 0, none⟩) c := by
  show ((w.setCell ⟨g, k * 2, none⟩ (.int .u32 (q : Int))).setCell ⟨g, k * 2 + 1, none⟩ (.int .u64 (p : Int))).ownsRow B 29 2 _ (l.set k (q, p)).length _
  rw [List.length_set]
  have s2 := (World.ownsRow.stored h (k * 2) (.int .u32 (q : Int))).1
  have s3 := (s2.stored (k * 2 + 1) (.int .u64 (p : Int))).1
  rw [flatD_set] at s3
  exact s3
theorem OwnD.there (h : OwnD w B l (some ⟨g, 0, none⟩) c) {k : Nat} (hk : k < l.length) : w.there g (k * 2) 2 := fun j hj => by
  have hl : (flatD l).length = l.length * 2 := flatD_len l
  refine ⟨?_, World.ownsRow.frozenAt h _⟩
  rw [World.ownsRow.cellAt h (k * 2 + j) (by omega), List.getElem?_eq_getElem (by omega)]
  rfl
theorem OwnD.blk (h : OwnD w B l (some ⟨g, 0, none⟩) c) : B ≤ g ∧ g < w.heap.size := World.ownsRow.lt h g rfl
end
theorem OwnD.pos {w : World} {B : Nat} {l : List (Nat × Nat)} {ao : Option Addr} {c : Nat} (h : OwnD w B l ao c) (h0 : 0 < l.length) : ∃ g, ao = some ⟨g, 0, none⟩ := by
  rcases h.2 with ⟨_, hn⟩ | ⟨g, cap, cur, hv, h1, h2, h3, h4, h5, h6⟩
  · omega
  · simp only [Value.slice.injEq] at hv; exact ⟨g, hv.1⟩
theorem belowCells {B : Nat} {a w : World} (h : Below B a w) {g k : Nat} (hg : B ≤ g) (x y : Value) : Below B a (w.setCells g k [x, y]) := belowCell (p := ⟨g, k + 1, none⟩) (belowCell (p := ⟨g, k, none⟩) h hg x) hg y
theorem cells_other (w : World) {g k M : Nat} (x y : Value) (h : M ≠ g) : (w.setCells g k [x, y]).heap[M]? = w.heap[M]? := by
  show ((w.setCell ⟨g, k, none⟩ x).setCell ⟨g, k + 1, none⟩ y).heap[M]? = w.heap[M]?
  rw [Below.heap_setCell _ ⟨g, k + 1, none⟩ y M h, Below.heap_setCell _ ⟨g, k, none⟩ x M h]
theorem cells_size (w : World) {g k : Nat} (x y : Value) : (w.setCells g k [x, y]).heap.size = w.heap.size := by
  show ((w.setCell ⟨g, k, none⟩ x).setCell ⟨g, k + 1, none⟩ y).heap.size = w.heap.size
  simp
theorem wp_alloc_dot {o : Oper} {a : Act} {w : World} {K : Act → World → Prop} {Q : Exit → Act → World → Prop} (ho : o.op = .alloc 29) (d : Option Tmp) (hd : o.dst = d) (h : K (a.put d (.pointer (some ⟨w.heap.size, 0, none⟩))) (w.alloc (.cells #[.int .u32 0, .int .u64 0] 29))) : o.wp Try.prog a w K Q := by
  subst hd
  obtain ⟨z, h1, h2⟩ := zero_run zeroDot w
  unfold Oper.wp execOp
  simp only [ho, Sem.run_bind, Instr.alloc, h1, newVar, newRow, run_newObj_alloc, Sem.run_pure, Result.andThen_ok, h2]
  exact h
theorem wp_store_dot {o : Oper} {a : Act} {w : World} {K : Act → World → Prop} {Q : Exit → Act → World → Prop} (x y : Operand) (ho : o.op = .store 29 x y) (hd : o.dst = none) (g : Nat) (q p : Int) (hx : a.eval x = .pointer (some ⟨g, 0, none⟩)) (hy : a.eval y = .agg #[.int .u32 q, .int .u64 p])
    {q0 p0 : Value} (hg : w.heap[g]? = some (.cells #[q0, p0] 29 (0, 0)))
    (h : ∀ w', Hid (w'.heap[g]? = some (.cells #[.int .u32 q, .int .u64 p] 29 (0, 0))) → Hid (w' = w.setRow g #[.int .u32 q, .int .u64 p]) → K a w') : o.wp Try.prog a w K Q :=
  wp_store_row 29 x y ho g #[.int .u32 q, .int .u64 p] hx hy 29 _ hg dotInfo rfl (dot_one _ _) (by rw [hd]; exact h _ (heapRow_same hg _) rfl)
theorem put_set (v : List (Nat × Nat)) (q : Nat) (y : Nat × Nat) (h : q < v.length) : (V.put v (q + 1) y).set (q + 1) v[q] = V.put v q v[q] := by
  unfold V.put
  have hl : (v.take (q + 1)).length = q + 1 := by rw [List.length_take]; omega
  rw [List.set_append_right _ _ (by omega), hl, Nat.sub_self, List.set_cons_zero, List.take_succ_eq_append_getElem h, List.append_assoc, List.drop_eq_getElem_cons h]
  rfl
theorem put_last (v : List (Nat × Nat)) (q : Nat) (y d : Nat × Nat) (h : q ≤ v.length) : (V.put v q y).set q d = V.put v q d := by
  unfold V.put
  have hl : (v.take q).length = q := by rw [List.length_take]; omega
  rw [List.set_append_right _ _ (by omega), hl, Nat.sub_self, List.set_cons_zero]
theorem put_get (v : List (Nat × Nat)) (q j : Nat) (y : Nat × Nat) (h : j < q) (hq : q ≤ v.length) : (V.put v q y)[j]'(by rw [V.put_len hq]; omega) = v[j] := by
  unfold V.put
  rw [List.getElem_append_left (by rw [List.length_take]; omega), List.getElem_take]
theorem put_end (v : List (Nat × Nat)) (d : Nat × Nat) : v ++ [d] = V.put v v.length d := by unfold V.put; simp
theorem fits_put {v : List (Nat × Nat)} {p : Nat} {d : Nat × Nat} (h : Fits v) (hd : d.1 < 4294967296 ∧ d.2 < 18446744073709551616) : Fits (V.put v p d) := fun x hx => by
  rcases V.mem_put.1 hx with rfl | hx
  · exact hd
  · exact h x hx
theorem fits_ins {v : List (Nat × Nat)} {d : Nat × Nat} (h : Fits v) (hd : d.1 < 4294967296 ∧ d.2 < 18446744073709551616) : Fits (V.ins v d) := by
  unfold V.ins; split
  · exact h
  · exact fits_put h hd
set_option maxRecDepth 100000 in
set_option maxHeartbeats 16000000 in
theorem lMade (l : List (Nat × Nat)) (ao : Option Addr) (c most : Nat) (u : World) (h : Da u l ao c) (hmost : most ≤ 128) :
    Calls Try.prog 39 #[.slice ao l.length c, .int .i64 (most : Int)] u fun e u' => ∃ ao' c', e = .returned (.slice ao' (V.mkv most [] l).length c') ∧ OwnD u' u.heap.size (V.mkv most [] l) ao' c' ∧ Fits (V.mkv most [] l) ∧ Below u.heap.size u u' := by
  have hl0 := h.len
  have HQ := hide h.lies
  have HF := hide h.fits
  obtain ⟨N, hN⟩ : ∃ N, N = u.heap.size := ⟨_, rfl⟩
  have HN := hide hN
  rw [← hN]
  have HSZ : Hid (∀ W : World, Below N u W → N ≤ W.heap.size) := fun W hW => by rw [hN]; exact hW.size
  obtain ⟨nl, hnl⟩ : ∃ n, n = l.length := ⟨_, rfl⟩
  have HNL := hide hnl
  rw [← hnl] at hl0 ⊢
  have hli : (nl : Int) ≤ 140737488355328 := by omega
  have hmi : (most : Int) ≤ 128 := by omega
  have HMO := hide hmost
  have hmix : Try.prog.follows .mixedOrders = true := by kernel_rfl
  have HRES : Hid (∀ v : List (Nat × Nat), v = V.mkv most [] l → v = V.mkv most [] l) := fun _ h => h
  clear hN hnl h hl0 hmost HRES
  go_enter Try.func39, Try.ntmps39
  go_wp2
  go_loopw [5, 6] (fun s5 s6 wr => ∃ (v : List (Nat × Nat)) (xo : Option Addr) (n i c3 : Nat), s5 = .slice xo n c3 ∧ s6 = .int .i64 (i : Int) ∧ i ≤ nl ∧ n ≤ most ∧ Hid (n = v.length) ∧ Hid (OwnD wr N v xo c3 ∧ Below N u wr) ∧ Hid (Fits v) ∧ Hid (V.mkv most [] l = V.mkv most v (l.drop i))) (fun _ s6 _ => nl - (intOf s6).toNat)
  case atStart => exact ⟨[], none, 0, 0, 0, rfl, rfl, Nat.zero_le _, Nat.zero_le _, rfl, ⟨World.ownsRow_nil _ _ _ _, by rw [unhide HN]; exact Below.refl _ _⟩, fun d hd => (by cases hd), rfl⟩
  case round =>
    obtain ⟨v, xo, n, i, c3, rfl, rfl, hi, hn, HNV, HI, HFV, HM⟩ := hrel
    by_cases hlt : i < nl ∧ n < most
    · obtain ⟨hlt, hnm⟩ := hlt
      have hii : (i : Int) < (nl : Int) := by omega
      have hni : (n : Int) < (most : Int) := by omega
      have hil : i < l.length := by rw [← unhide HNL]; exact hlt
      obtain ⟨g, o, hao, e1, e2⟩ := (unhide HQ).dt hil
      subst hao
      have hC1 : ∀ W : World, Below N u W → W.cell? ⟨g, o + i * 2, none⟩ = some (.int .u32 (l[i].1 : Int)) ∧ W.cell? ⟨g, o + i * 2 + 1, none⟩ = some (.int .u64 (l[i].2 : Int)) := fun W hW => ⟨cell_keep (unhide HN) hW e1, cell_keep (unhide HN) hW e2⟩
      have hix := ixD g o nl c i hlt
      have HD : Hid (l.drop i = l[i] :: l.drop (i + 1)) := List.drop_eq_getElem_cons hil
      have HFD := hide (unhide HF _ (List.getElem_mem hil))
      clear e1 e2
      generalize o + i * 2 = oo at *
      generalize l[i] = d at *
      obtain ⟨da, dc⟩ := d
      have hC1 : ∀ W : World, Below N u W → W.cell? ⟨g, oo, none⟩ = some (.int .u32 (da : Int)) ∧ W.cell? ⟨g, oo + 1, none⟩ = some (.int .u64 (dc : Int)) := hC1
      obtain ⟨dm, hdm⟩ : ∃ m : Nat, m = dc % 1099511627776 := ⟨_, rfl⟩
      obtain ⟨dq, hdq⟩ : ∃ m : Nat, m = dm + 1 := ⟨_, rfl⟩
      have hr1 : (dc : Int).tmod 1099511627776 = (dm : Int) := by rw [hdm]; simp [Int.tmod]
      have hdml : dm < 1099511627776 := by rw [hdm]; exact Nat.mod_lt _ (by decide)
      have hr2 : IntKind.u64.wrap ((dm : Int) + 1) = (dq : Int) := by rw [IntKind.wrap_u64]; omega
      have HDN : Hid (V.dn (da, dc) = (da, dq)) := by show (da, dc % 1099511627776 + 1) = (da, dq); rw [hdq, hdm]
      have HDQ : Hid (da < 4294967296 ∧ dq < 18446744073709551616) := ⟨(unhide HFD).1, by omega⟩
      have HST : Hid (V.mkv most [] l = V.mkv most (V.ins v (da, dq)) (l.drop (i + 1))) := by
        rw [unhide HM, unhide HD, V.mkv_cons (by rw [← unhide HNV]; exact hnm), unhide HDN]
        exact rfl
      have HFI : Hid (Fits (V.ins v (da, dq))) := fits_ins (unhide HFV) (unhide HDQ)
      have hr1' : IntKind.u64.wrap ((dc : Int).tmod 1099511627776) = (dm : Int) := by rw [hr1, IntKind.wrap_u64]; omega
      clear hdm hdq hdml HD HDN HM
      go_wp2_with fail
      refine wp_region_last (fun W => Below N u W) 14 hmix (belowDrew (unhide HI).2) fun hS => ?_
      have HO0 : Hid (OwnD wr.drew N v xo c3) := (unhide HI).1
      generalize wr.drew = X0 at hS HO0 ⊢
      refine wpAnyL_take 0 22 (.slice (some ⟨g, o, none⟩) nl c) [] rfl rfl (by kernel_rfl) (by kernel_rfl) (by kernel_rfl) (by kernel_rfl) (by kernel_rfl) (fun _ _ _ h => h) (by rfl) (fun u _ => by go_simp) hS ?_
      simp only [Act.put, List.setIfInBounds_toArray, List.set_cons_zero, List.set_cons_succ]
      refine wpAnyL_take 1 23 (.int .i64 (i : Int)) [] rfl rfl (by kernel_rfl) (by kernel_rfl) (by kernel_rfl) (by kernel_rfl) (by kernel_rfl) (fun _ _ _ h => h) (by rfl) (fun u _ => by go_simp) hS ?_
      simp only [Act.put, List.setIfInBounds_toArray, List.set_cons_zero, List.set_cons_succ]
      refine wpAnyL_take 2 24 (.pointer (some ⟨g, oo, none⟩)) [] rfl rfl (by kernel_rfl) (by kernel_rfl) (by kernel_rfl) (by kernel_rfl) (by kernel_rfl) (fun _ _ _ h => h) (by rfl) (fun u _ => by go_simp) hS ?_
      simp only [Act.put, List.setIfInBounds_toArray, List.set_cons_zero, List.set_cons_succ]
      refine wpAnyL_take 3 25 (.pointer (some ⟨g, oo, none⟩)) [] rfl rfl (by kernel_rfl) (by kernel_rfl) (by kernel_rfl) (by kernel_rfl) (by kernel_rfl) (fun _ _ _ h => h) (by rfl) (fun u _ => by go_simp) hS ?_
      simp only [Act.put, List.setIfInBounds_toArray, List.set_cons_zero, List.set_cons_succ]
      refine wpAnyL_take 4 26 (.int .u32 (da : Int)) [] rfl rfl (by kernel_rfl) (by kernel_rfl) (by kernel_rfl) (by kernel_rfl) (by kernel_rfl) (fun _ _ _ h => h) (by rfl) (fun W hW => by obtain ⟨e1, e2⟩ := hC1 W hW; go_simp) hS ?_
      simp only [Act.put, List.setIfInBounds_toArray, List.set_cons_zero, List.set_cons_succ]
      refine wpAnyL_take 5 27 (.slice (some ⟨g, o, none⟩) nl c) [] rfl rfl (by kernel_rfl) (by kernel_rfl) (by kernel_rfl) (by kernel_rfl) (by kernel_rfl) (fun _ _ _ h => h) (by rfl) (fun u _ => by go_simp) hS ?_
      simp only [Act.put, List.setIfInBounds_toArray, List.set_cons_zero, List.set_cons_succ]
      refine wpAnyL_take 6 28 (.int .i64 (i : Int)) [] rfl rfl (by kernel_rfl) (by kernel_rfl) (by kernel_rfl) (by kernel_rfl) (by kernel_rfl) (fun _ _ _ h => h) (by rfl) (fun u _ => by go_simp) hS ?_
      simp only [Act.put, List.setIfInBounds_toArray, List.set_cons_zero, List.set_cons_succ]
      refine wpAnyL_take 7 29 (.pointer (some ⟨g, oo, none⟩)) [] rfl rfl (by kernel_rfl) (by kernel_rfl) (by kernel_rfl) (by kernel_rfl) (by kernel_rfl) (fun _ _ _ h => h) (by rfl) (fun u _ => by go_simp) hS ?_
      simp only [Act.put, List.setIfInBounds_toArray, List.set_cons_zero, List.set_cons_succ]
      refine wpAnyL_take 8 30 (.pointer (some ⟨g, oo + 1, none⟩)) [] rfl rfl (by kernel_rfl) (by kernel_rfl) (by kernel_rfl) (by kernel_rfl) (by kernel_rfl) (fun _ _ _ h => h) (by rfl) (fun u _ => by go_simp) hS ?_
      simp only [Act.put, List.setIfInBounds_toArray, List.set_cons_zero, List.set_cons_succ]
      refine wpAnyL_take 9 31 (.int .u64 (dc : Int)) [] rfl rfl (by kernel_rfl) (by kernel_rfl) (by kernel_rfl) (by kernel_rfl) (by kernel_rfl) (fun _ _ _ h => h) (by rfl) (fun W hW => by obtain ⟨e1, e2⟩ := hC1 W hW; go_simp) hS ?_
      simp only [Act.put, List.setIfInBounds_toArray, List.set_cons_zero, List.set_cons_succ]
      refine wpAnyL_take 10 32 (.int .u64 (dm : Int)) [] rfl rfl (by kernel_rfl) (by kernel_rfl) (by kernel_rfl) (by kernel_rfl) (by kernel_rfl) (fun _ _ _ h => h) (by rfl) (fun u _ => by go_simp) hS ?_
      simp only [Act.put, List.setIfInBounds_toArray, List.set_cons_zero, List.set_cons_succ]
      refine wpAnyL_take 11 33 (.int .u64 (dq : Int)) [] rfl rfl (by kernel_rfl) (by kernel_rfl) (by kernel_rfl) (by kernel_rfl) (by kernel_rfl) (fun _ _ _ h => h) (by rfl) (fun u _ => by go_simp) hS ?_
      simp only [Act.put, List.setIfInBounds_toArray, List.set_cons_zero, List.set_cons_succ]
      refine wpAnyL_take 12 34 (.agg #[.int .u32 (da : Int), .int .u64 (dq : Int)]) [] rfl rfl (by kernel_rfl) (by kernel_rfl) (by kernel_rfl) (by kernel_rfl) (by kernel_rfl) (fun _ _ _ h => h) (by rfl) (fun u _ => by go_simp) hS ?_
      simp only [Act.put, List.setIfInBounds_toArray, List.set_cons_zero, List.set_cons_succ]
      refine wpAnyL_one (i := 13) (by kernel_rfl) rfl (by rfl) fun K hK => ?_
      refine wp_alloc_dot (by rfl) (some 7) (by rfl) ?_
      have hn := heap_alloc_new X0 (.cells #[.int .u32 0, .int .u64 0] 29)
      obtain ⟨X1, hw1⟩ : ∃ X, X = X0.alloc (.cells #[.int .u32 0, .int .u64 0] 29) := ⟨_, rfl⟩
      obtain ⟨M, hM⟩ : ∃ X, X = X0.heap.size := ⟨_, rfl⟩
      have HM := hide hM
      have HBE : Hid (Below M X0 X1) := by rw [hw1, hM]; exact (Below.refl _ _).alloc (Nat.le_refl _) _
      have HX1 : Hid (X1.heap[M]? = some (.cells #[.int .u32 0, .int .u64 0] 29 (0, 0))) := by rw [hw1, hM]; exact hn
      have HB1 : Hid (Below N u X1) := hS.trans ((unhide HBE).mono (by rw [hM]; exact unhide HSZ _ hS))
      rw [← hw1, ← hM]
      refine hK _ _ (fun _ => unhide HB1) ?_
      clear hK K hw1 hM hn
      simp only [Act.put, List.setIfInBounds_toArray, List.set_cons_zero, List.set_cons_succ]
      refine wpAnyL_one (i := 14) (by kernel_rfl) rfl (by rfl) fun K hK => ?_
      refine wp_store_dot (.tmp 7) (.tmp 34) (by rfl) (by rfl) M (da : Int) (dq : Int) (by rfl) (by rfl) (unhide HX1) ?_
      intro X2 HX2 HE2
      have HBE2 : Hid (Below M X0 X2) := by rw [unhide HE2]; exact belowRow (unhide HBE) (Nat.le_refl _) _
      have HB2 : Hid (Below N u X2) := hS.trans ((unhide HBE2).mono (by rw [unhide HM]; exact unhide HSZ _ hS))
      refine hK _ _ (fun h => absurd rfl h) ?_
      clear hK K HE2 HX1 HBE
      refine wpAnyL_done (by kernel_rfl) ?_ _
      have HO2 : Hid (OwnD X2 N v xo c3) := OwnD.below (unhide HO0) (by rw [← unhide HM]; exact unhide HBE2)
      have HGM : Hid (∀ g o, xo = some ⟨g, o, none⟩ → g < M) := fun g o he => by rw [unhide HM]; exact ((own_lies (unhide HO0)).2.2.2 g o he).2
      clear HI HO0 HM HBE2 hS hC1 hix hr1 hr2 hr1'
      go_wp2_with fail
      go_loopw [8] (fun s8 wq => ∃ k : Nat, k ≤ n ∧ s8 = .int .i64 (k : Int) ∧ Hid (∃ z, wq = X2.drewN z) ∧ Hid (∀ j (hj : j < v.length), j < k → v[j].1 < da)) (fun s8 _ => n - (intOf s8).toNat)
      case atStart => exact ⟨0, Nat.zero_le _, rfl, ⟨0, rfl⟩, fun j _ hj => absurd hj (Nat.not_lt_zero _)⟩
      case round =>
        obtain ⟨k, hkn, rfl, HZ, HLT⟩ := hrel
        obtain ⟨z, rfl⟩ := unhide HZ
        clear HZ
        have hki : (k : Int) ≤ 128 := by omega
        have hnn : (n : Int) ≤ 128 := by omega
        obtain ⟨x0, x1⟩ := box2 (unhide HX2)
        by_cases hk : k < n
        · have hkni : (k : Int) < (n : Int) := by omega
          have hdk1 : decide ((k : Int) < (n : Int)) = true := decide_eq_true hkni
          have hkv : k < v.length := by rw [← unhide HNV]; exact hk
          obtain ⟨g1, o1, hx1, f1, f2⟩ := ((unhide HO2).dv.lies).dt hkv
          have hix2 : ∀ W : World, (Instr.indexAt 22 (.slice xo n c3) (.int .i64 (k : Int))).run Try.prog W = .ok (.pointer (some ⟨g1, o1 + k * 2, none⟩)) W := fun W => by rw [hx1]; exact ixD g1 o1 n c3 k hk W
          clear hx1
          have HPE : Hid (¬ v[k].1 < da → V.plc v da = k) := fun hh => V.plc_eq (by omega) (unhide HLT) (fun _ => by omega)
          have HPS : Hid (v[k].1 < da → ∀ j (hj : j < v.length), j < k + 1 → v[j].1 < da) := fun hg j hj hjk => by
            rcases Nat.lt_succ_iff_lt_or_eq.1 hjk with h | rfl
            · exact unhide HLT j hj h
            · exact hg
          have HOLD : Hid (V.plc v da = k → v[k].1 = da → V.ins v (da, dq) = v) := fun hp he => V.ins_old (d := (da, dq)) (by show V.plc v da < _; rw [hp]; exact hkv) (by simp only [hp]; exact he)
          have HNEW : Hid (V.plc v da = k → v[k].1 ≠ da → V.ins v (da, dq) = V.put v k (da, dq)) := fun hp he => by
            rw [V.ins_new (d := (da, dq)) (fun hh => by simp only [hp]; exact he)]; simp only [hp]
          clear HLT
          generalize v[k] = vk at *
          obtain ⟨va, vc⟩ := vk
          have f1 : X2.cell? ⟨g1, o1 + k * 2, none⟩ = some (.int .u32 (va : Int)) := f1
          clear f2
          generalize o1 + k * 2 = ok at *
          by_cases hva : va < da
          · have hvi : (va : Int) < (da : Int) := by omega
            have hvd : decide ((va : Int) < (da : Int)) = true := decide_eq_true hvi
            have HG := hide (unhide HPS hva)
            go_wp2_with fail
            go_quiet (fail)
            go_wp2
            go_roundw
            case rel => exact ⟨k + 1, by omega, by go_num, ⟨z + nq, rfl⟩, unhide HG⟩
            case measure => simp [intOf]; omega
          · have HPL0 := hide (unhide HPE hva)
            have hvi : ¬ (va : Int) < (da : Int) := by omega
            have hvd : decide ((va : Int) < (da : Int)) = false := decide_eq_false hvi
            have hvd2 : decide (va < da) = false := decide_eq_false hva
            by_cases hve : va = da
            · subst hve
              have HIN := hide (unhide HOLD (unhide HPL0) rfl)
              go_wp2_with fail
              go_quiet (fail)
              go_wp2_with fail
              go_quiet (fail)
              go_wp2
              go_roundw
              case rel => exact ⟨v, xo, n, i + 1, c3, rfl, by go_num, by omega, hn, unhide HNV, ⟨unhide HO2, belowDrewN (unhide HB2) _⟩, unhide HFV, by have := unhide HST; rwa [unhide HIN] at this⟩
              case measure => simp [intOf]; omega
            · have HINS := hide (unhide HNEW (unhide HPL0) hve)
              have hvei : ¬ (va : Int) = (da : Int) := by omega
              have hved : decide ((va : Int) = (da : Int)) = false := decide_eq_false hvei
              have hved2 : decide (va = da) = false := decide_eq_false hve
              have hved3 : ((va : Int) == (da : Int)) = false := by simp only [beq_eq_false_iff_ne, ne_eq]; omega
              go_wp2_with fail
              go_quiet (fail)
              go_wp2_with fail
              go_quiet (fail)
              clear hvi hvd hvd2 hve hvei hved hved2 hved3 hva f1 hix2 x0 x1
              generalize hX3 : World.drewN (World.drewN (World.drewN X2 z) _) _ = X3
              have HO3 : Hid (OwnD X3 N v xo c3 ∧ Below N u X3 ∧ X3.heap[M]? = some (.cells #[.int .u32 (da : Int), .int .u64 (dq : Int)] 29 (0, 0))) := by rw [← hX3]; exact ⟨unhide HO2, belowDrewN (belowDrewN (belowDrewN (unhide HB2) _) _) _, unhide HX2⟩
              have HSX3 : Hid (M < X3.heap.size) := (Array.getElem?_eq_some_iff.1 (unhide HO3).2.2).1
              clear hX3
              obtain ⟨z0, z1⟩ := box2 (unhide HO3).2.2
              have HAL := hide (Below.heap_alloc X3 (.cells #[.int .u32 (da : Int), .int .u64 (dq : Int)] 29) M (unhide HSX3))
              have HBA : Hid (Below X3.heap.size X3 (X3.alloc (.cells #[.int .u32 (da : Int), .int .u64 (dq : Int)] 29))) := (Below.refl _ _).alloc (Nat.le_refl _) _
              have HSA : Hid ((X3.alloc (.cells #[.int .u32 (da : Int), .int .u64 (dq : Int)] 29)).heap.size = X3.heap.size + 1) := by simp [Hid]
              have HLL : Hid (v.length + [(da, dq)].length ≤ 8796093022208) := by have := unhide HNV; have := unhide HMO; simp only [List.length_cons, List.length_nil, Hid]; omega
              have HBS : Hid (N ≤ (X3.alloc (.cells #[.int .u32 (da : Int), .int .u64 (dq : Int)] 29)).heap.size) := by rw [unhide HSA]; exact Nat.le_succ_of_le (unhide HSZ _ (unhide HO3).2.1)
              go_wp2_with (first
                | (at_builtin; refine wpList_putD (by rfl) (.tmp 65) (.tmp 67) (by rfl) (some 68) (by rfl) N v [(da, dq)] n 1 (unhide HNV) rfl xo (some ⟨X3.heap.size, 0, none⟩) c3 1 (by rfl) (by rfl) (OwnD.below (unhide HO3).1 (unhide HBA)) (Dv.one X3 (da, dq) 29) (unhide HLL) (unhide HBS) ?_; intro ao4 n4 c4 X4 HN4 HO4 HG4 HB4 HNR4; simp only [Act.put, List.setIfInBounds_toArray, List.set_cons_zero, List.set_cons_succ]; have hn4 : (n4 : Int) - 1 = (n : Int) := (by have h1 := unhide HN4; have h2 := unhide HNV; rw [List.length_append, ← h2] at h1; have h3 : [(da, dq)].length = 1 := rfl; omega); have hn4i : (n4 : Int) ≤ 129 := (by omega))
                | fail)
              obtain ⟨g4, hg4⟩ := (unhide HO4).pos (by rw [List.length_append]; simp)
              subst hg4
              have HG4M : Hid (M ≠ g4) := by
                rcases unhide HNR4 g4 0 rfl with ⟨o', he⟩ | hh
                · have := unhide HGM g4 o' he; exact Nat.ne_of_gt this
                · rw [unhide HSA] at hh; have := unhide HSX3; exact Nat.ne_of_lt (by omega)
              have HGN : Hid (N ≤ g4) := (unhide HO4).blk.1
              have HX4 : Hid (X4.heap[M]? = some (.cells #[.int .u32 (da : Int), .int .u64 (dq : Int)] 29 (0, 0))) := by
                rw [(unhide HG4).block M (by rw [unhide HSA]; exact Nat.lt_succ_of_lt (unhide HSX3)) (fun e => by
                  have h1 : (Value.slice xo v.length c3).ownBlock = some M := e.symm
                  rcases (unhide HO3).1.2 with ⟨hv, _⟩ | ⟨g2, cap2, cur2, hv, _⟩
                  · rw [hv] at h1; cases h1
                  · rw [hv] at h1; cases h1
                    simp only [Value.slice.injEq] at hv
                    exact absurd (unhide HGM _ _ hv.1) (Nat.lt_irrefl _)), unhide HAL]
                exact (unhide HO3).2.2
              have HB4' : Hid (Below N u X4) := (unhide HO3).2.1.trans (((unhide HBA).mono (unhide HSZ _ (unhide HO3).2.1)).trans (unhide HB4))
              have HP4 : Hid (OwnD X4 N (V.put v n (da, dq)) (some ⟨g4, 0, none⟩) c4) := by rw [unhide HNV, ← put_end]; exact unhide HO4
              have HN4' : Hid (n4 = n + 1) := by have h1 := unhide HN4; have h2 := unhide HNV; rw [List.length_append, ← h2] at h1; exact h1
              clear HO4 HG4 HB4 HNR4 HN4 HAL HBA HSA HLL HBS z0 z1
              go_loopw [9] (fun s9 wr3 => ∃ (q : Nat) (y : Nat × Nat), k ≤ q ∧ q ≤ n ∧ s9 = .int .i64 (q : Int) ∧ Hid (OwnD wr3 N (V.put v q y) (some ⟨g4, 0, none⟩) c4 ∧ Below N u wr3 ∧ wr3.heap[M]? = some (.cells #[.int .u32 (da : Int), .int .u64 (dq : Int)] 29 (0, 0)))) (fun s9 _ => (intOf s9).toNat)
              case atStart => exact ⟨n, (da, dq), (by omega), Nat.le_refl _, (by first | rfl | exact congrArg (Value.int .i64) hn4), unhide HP4, unhide HB4', unhide HX4⟩
              case round =>
                clear HP4 HB4' HX4
                obtain ⟨q, y, hkq, hqn, rfl, HJ⟩ := hrel
                have hqi : (q : Int) ≤ 128 := by omega
                have hqn4 : q < n4 := by rw [unhide HN4']; omega
                have hixq : ∀ W, (Instr.indexAt 22 (.slice (some ⟨g4, 0, none⟩) n4 c4) (.int .i64 (q : Int))).run Try.prog W = .ok (.pointer (some ⟨g4, q * 2, none⟩)) W := fun W => by have := ixD g4 0 n4 c4 q hqn4 W; rwa [Nat.zero_add] at this
                have HPL : Hid ((V.put v q y).length = n + 1) := by rw [V.put_len (by rw [← unhide HNV]; exact hqn), ← unhide HNV]; exact rfl
                have HTH := hide ((unhide HJ).1.there (k := q) (by rw [unhide HPL]; omega))
                obtain ⟨y0, y1⟩ := box2 (unhide HJ).2.2
                by_cases hkq2 : k < q
                · have hkqi : (k : Int) < (q : Int) := by omega
                  obtain ⟨r, hr⟩ : ∃ r, q = r + 1 := ⟨q - 1, by omega⟩
                  have hri : (q : Int) - 1 = (r : Int) := by omega
                  have hixr : ∀ W, (Instr.indexAt 22 (.slice (some ⟨g4, 0, none⟩) n4 c4) (.int .i64 (r : Int))).run Try.prog W = .ok (.pointer (some ⟨g4, r * 2, none⟩)) W := fun W => by have := ixD g4 0 n4 c4 r (by omega) W; rwa [Nat.zero_add] at this
                  have hrv : r < v.length := by rw [← unhide HNV]; omega
                  obtain ⟨g', o', he', f1, f2⟩ := ((unhide HJ).1.dv.lies).dt (i := r) (by rw [unhide HPL]; omega)
                  cases he'
                  rw [put_get v q r y (by omega) (by rw [← unhide HNV]; exact hqn), Nat.zero_add] at f1 f2
                  have HS5 : Hid (∀ (a b : Nat), v[r] = (a, b) → OwnD (wr.setCells g4 (q * 2) [.int .u32 (a : Int), .int .u64 (b : Int)]) N (V.put v r v[r]) (some ⟨g4, 0, none⟩) c4) := fun a b hab => by
                    have h1 := (unhide HJ).1.set q a b
                    rw [← hab] at h1
                    subst hr
                    rw [put_set v r y hrv] at h1
                    exact h1
                  have HR := hide hr
                  generalize hvr : v[r] = vr at *
                  obtain ⟨va, vc⟩ := vr
                  have f1 : wr.cell? ⟨g4, r * 2, none⟩ = some (.int .u32 (va : Int)) := f1
                  have f2 : wr.cell? ⟨g4, r * 2 + 1, none⟩ = some (.int .u64 (vc : Int)) := f2
                  clear hr hvr
                  generalize r * 2 = r2 at *
                  go_wp2_with (first
                    | (refine wpList_store_mid (by rfl) 29 (.tmp 84) (.tmp 83) (by rfl) g4 (q * 2) #[.int .u32 (va : Int), .int .u64 (vc : Int)] (by with_unfolding_all rfl) (by with_unfolding_all rfl) (unhide HTH) dotInfo (dot_one _ _) ?_; simp only [Act.put])
                    | fail)
                  go_roundw
                  case rel => exact ⟨r, (va, vc), by have := unhide HR; omega, by have := unhide HR; omega, by simp, unhide HS5 va vc rfl, belowCells (unhide HJ).2.1 (unhide HGN) _ _, (cells_other _ _ _ (unhide HG4M)).trans (unhide HJ).2.2⟩
                  case measure => have := unhide HR; simp [intOf]; omega
                · obtain rfl : q = k := by omega
                  have hkqi : ¬ (q : Int) < (q : Int) := by omega
                  have HS6 : Hid (OwnD (wr.setCells g4 (q * 2) [.int .u32 (da : Int), .int .u64 (dq : Int)]) N (V.ins v (da, dq)) (some ⟨g4, 0, none⟩) c4) := by
                    have h1 := (unhide HJ).1.set q da dq
                    rw [put_last v q y (da, dq) (by rw [← unhide HNV]; exact hqn)] at h1
                    rw [unhide HINS]
                    exact h1
                  have HLN : Hid (n4 = (V.ins v (da, dq)).length) := by
                    rw [unhide HINS, V.put_len (by rw [← unhide HNV]; exact hqn), ← unhide HNV]; exact unhide HN4'
                  go_wp2_with (first
                    | (refine wpList_store_mid (by rfl) 29 (.tmp 88) (.tmp 87) (by rfl) g4 (q * 2) #[.int .u32 (da : Int), .int .u64 (dq : Int)] (by with_unfolding_all rfl) (by with_unfolding_all rfl) (unhide HTH) dotInfo (dot_one _ _) ?_; simp only [Act.put])
                    | fail)
                  go_roundw
                  case rel => exact ⟨V.ins v (da, dq), some ⟨g4, 0, none⟩, n4, i + 1, c4, rfl, by go_num, by omega, by have := unhide HN4'; omega, unhide HLN, ⟨unhide HS6, belowCells (unhide HJ).2.1 (unhide HGN) _ _⟩, unhide HFI, unhide HST⟩
                  case measure => simp [intOf]; omega
        · have HINS : Hid (V.ins v (da, dq) = V.put v k (da, dq)) := by
            have hkv : k = v.length := by rw [← unhide HNV]; omega
            have hp : V.plc v da = k := V.plc_eq (by omega) (unhide HLT) (fun hh => by omega)
            rw [V.ins_new (d := (da, dq)) (fun hh => by simp only [hp] at hh; omega)]
            simp only [hp]
            exact trivial
          have hkni : ¬ (k : Int) < (n : Int) := by omega
          have hdk1 : decide ((k : Int) < (n : Int)) = false := decide_eq_false hkni
          have hdk2 : decide (k < n) = false := decide_eq_false hk
          clear hkni HLT
          go_wp2_with fail
          go_quiet (fail)
          go_wp2_with fail
          go_quiet (fail)
          clear hdk1 hdk2 x0 x1
          generalize hX3 : World.drewN (World.drewN (World.drewN X2 z) _) _ = X3
          have HO3 : Hid (OwnD X3 N v xo c3 ∧ Below N u X3 ∧ X3.heap[M]? = some (.cells #[.int .u32 (da : Int), .int .u64 (dq : Int)] 29 (0, 0))) := by rw [← hX3]; exact ⟨unhide HO2, belowDrewN (belowDrewN (belowDrewN (unhide HB2) _) _) _, unhide HX2⟩
          have HSX3 : Hid (M < X3.heap.size) := (Array.getElem?_eq_some_iff.1 (unhide HO3).2.2).1
          clear hX3
          obtain ⟨z0, z1⟩ := box2 (unhide HO3).2.2
          have HAL := hide (Below.heap_alloc X3 (.cells #[.int .u32 (da : Int), .int .u64 (dq : Int)] 29) M (unhide HSX3))
          have HBA : Hid (Below X3.heap.size X3 (X3.alloc (.cells #[.int .u32 (da : Int), .int .u64 (dq : Int)] 29))) := (Below.refl _ _).alloc (Nat.le_refl _) _
          have HSA : Hid ((X3.alloc (.cells #[.int .u32 (da : Int), .int .u64 (dq : Int)] 29)).heap.size = X3.heap.size + 1) := by simp [Hid]
          have HLL : Hid (v.length + [(da, dq)].length ≤ 8796093022208) := by have := unhide HNV; have := unhide HMO; simp only [List.length_cons, List.length_nil, Hid]; omega
          have HBS : Hid (N ≤ (X3.alloc (.cells #[.int .u32 (da : Int), .int .u64 (dq : Int)] 29)).heap.size) := by rw [unhide HSA]; exact Nat.le_succ_of_le (unhide HSZ _ (unhide HO3).2.1)
          go_wp2_with (first
            | (at_builtin; refine wpList_putD (by rfl) (.tmp 65) (.tmp 67) (by rfl) (some 68) (by rfl) N v [(da, dq)] n 1 (unhide HNV) rfl xo (some ⟨X3.heap.size, 0, none⟩) c3 1 (by rfl) (by rfl) (OwnD.below (unhide HO3).1 (unhide HBA)) (Dv.one X3 (da, dq) 29) (unhide HLL) (unhide HBS) ?_; intro ao4 n4 c4 X4 HN4 HO4 HG4 HB4 HNR4; simp only [Act.put, List.setIfInBounds_toArray, List.set_cons_zero, List.set_cons_succ]; have hn4 : (n4 : Int) - 1 = (n : Int) := (by have h1 := unhide HN4; have h2 := unhide HNV; rw [List.length_append, ← h2] at h1; have h3 : [(da, dq)].length = 1 := rfl; omega); have hn4i : (n4 : Int) ≤ 129 := (by omega))
            | fail)
          obtain ⟨g4, hg4⟩ := (unhide HO4).pos (by rw [List.length_append]; simp)
          subst hg4
          have HG4M : Hid (M ≠ g4) := by
            rcases unhide HNR4 g4 0 rfl with ⟨o', he⟩ | hh
            · have := unhide HGM g4 o' he; exact Nat.ne_of_gt this
            · rw [unhide HSA] at hh; have := unhide HSX3; exact Nat.ne_of_lt (by omega)
          have HGN : Hid (N ≤ g4) := (unhide HO4).blk.1
          have HX4 : Hid (X4.heap[M]? = some (.cells #[.int .u32 (da : Int), .int .u64 (dq : Int)] 29 (0, 0))) := by
            rw [(unhide HG4).block M (by rw [unhide HSA]; exact Nat.lt_succ_of_lt (unhide HSX3)) (fun e => by
              have h1 : (Value.slice xo v.length c3).ownBlock = some M := e.symm
              rcases (unhide HO3).1.2 with ⟨hv, _⟩ | ⟨g2, cap2, cur2, hv, _⟩
              · rw [hv] at h1; cases h1
              · rw [hv] at h1; cases h1
                simp only [Value.slice.injEq] at hv
                exact absurd (unhide HGM _ _ hv.1) (Nat.lt_irrefl _)), unhide HAL]
            exact (unhide HO3).2.2
          have HB4' : Hid (Below N u X4) := (unhide HO3).2.1.trans (((unhide HBA).mono (unhide HSZ _ (unhide HO3).2.1)).trans (unhide HB4))
          have HP4 : Hid (OwnD X4 N (V.put v n (da, dq)) (some ⟨g4, 0, none⟩) c4) := by rw [unhide HNV, ← put_end]; exact unhide HO4
          have HN4' : Hid (n4 = n + 1) := by have h1 := unhide HN4; have h2 := unhide HNV; rw [List.length_append, ← h2] at h1; exact h1
          clear HO4 HG4 HB4 HNR4 HN4 HAL HBA HSA HLL HBS z0 z1
          go_loopw [9] (fun s9 wr3 => ∃ (q : Nat) (y : Nat × Nat), k ≤ q ∧ q ≤ n ∧ s9 = .int .i64 (q : Int) ∧ Hid (OwnD wr3 N (V.put v q y) (some ⟨g4, 0, none⟩) c4 ∧ Below N u wr3 ∧ wr3.heap[M]? = some (.cells #[.int .u32 (da : Int), .int .u64 (dq : Int)] 29 (0, 0)))) (fun s9 _ => (intOf s9).toNat)
          case atStart => exact ⟨n, (da, dq), (by omega), Nat.le_refl _, (by first | rfl | exact congrArg (Value.int .i64) hn4), unhide HP4, unhide HB4', unhide HX4⟩
          case round =>
            clear HP4 HB4' HX4
            obtain ⟨q, y, hkq, hqn, rfl, HJ⟩ := hrel
            have hqi : (q : Int) ≤ 128 := by omega
            have hqn4 : q < n4 := by rw [unhide HN4']; omega
            have hixq : ∀ W, (Instr.indexAt 22 (.slice (some ⟨g4, 0, none⟩) n4 c4) (.int .i64 (q : Int))).run Try.prog W = .ok (.pointer (some ⟨g4, q * 2, none⟩)) W := fun W => by have := ixD g4 0 n4 c4 q hqn4 W; rwa [Nat.zero_add] at this
            have HPL : Hid ((V.put v q y).length = n + 1) := by rw [V.put_len (by rw [← unhide HNV]; exact hqn), ← unhide HNV]; exact rfl
            have HTH := hide ((unhide HJ).1.there (k := q) (by rw [unhide HPL]; omega))
            obtain ⟨y0, y1⟩ := box2 (unhide HJ).2.2
            by_cases hkq2 : k < q
            · have hkqi : (k : Int) < (q : Int) := by omega
              obtain ⟨r, hr⟩ : ∃ r, q = r + 1 := ⟨q - 1, by omega⟩
              have hri : (q : Int) - 1 = (r : Int) := by omega
              have hixr : ∀ W, (Instr.indexAt 22 (.slice (some ⟨g4, 0, none⟩) n4 c4) (.int .i64 (r : Int))).run Try.prog W = .ok (.pointer (some ⟨g4, r * 2, none⟩)) W := fun W => by have := ixD g4 0 n4 c4 r (by omega) W; rwa [Nat.zero_add] at this
              have hrv : r < v.length := by rw [← unhide HNV]; omega
              obtain ⟨g', o', he', f1, f2⟩ := ((unhide HJ).1.dv.lies).dt (i := r) (by rw [unhide HPL]; omega)
              cases he'
              rw [put_get v q r y (by omega) (by rw [← unhide HNV]; exact hqn), Nat.zero_add] at f1 f2
              have HS5 : Hid (∀ (a b : Nat), v[r] = (a, b) → OwnD (wr.setCells g4 (q * 2) [.int .u32 (a : Int), .int .u64 (b : Int)]) N (V.put v r v[r]) (some ⟨g4, 0, none⟩) c4) := fun a b hab => by
                have h1 := (unhide HJ).1.set q a b
                rw [← hab] at h1
                subst hr
                rw [put_set v r y hrv] at h1
                exact h1
              have HR := hide hr
              generalize hvr : v[r] = vr at *
              obtain ⟨va, vc⟩ := vr
              have f1 : wr.cell? ⟨g4, r * 2, none⟩ = some (.int .u32 (va : Int)) := f1
              have f2 : wr.cell? ⟨g4, r * 2 + 1, none⟩ = some (.int .u64 (vc : Int)) := f2
              clear hr hvr
              generalize r * 2 = r2 at *
              go_wp2_with (first
                | (refine wpList_store_mid (by rfl) 29 (.tmp 84) (.tmp 83) (by rfl) g4 (q * 2) #[.int .u32 (va : Int), .int .u64 (vc : Int)] (by with_unfolding_all rfl) (by with_unfolding_all rfl) (unhide HTH) dotInfo (dot_one _ _) ?_; simp only [Act.put])
                | fail)
              go_roundw
              case rel => exact ⟨r, (va, vc), by have := unhide HR; omega, by have := unhide HR; omega, by simp, unhide HS5 va vc rfl, belowCells (unhide HJ).2.1 (unhide HGN) _ _, (cells_other _ _ _ (unhide HG4M)).trans (unhide HJ).2.2⟩
              case measure => have := unhide HR; simp [intOf]; omega
            · obtain rfl : q = k := by omega
              have hkqi : ¬ (q : Int) < (q : Int) := by omega
              have HS6 : Hid (OwnD (wr.setCells g4 (q * 2) [.int .u32 (da : Int), .int .u64 (dq : Int)]) N (V.ins v (da, dq)) (some ⟨g4, 0, none⟩) c4) := by
                have h1 := (unhide HJ).1.set q da dq
                rw [put_last v q y (da, dq) (by rw [← unhide HNV]; exact hqn)] at h1
                rw [unhide HINS]
                exact h1
              have HLN : Hid (n4 = (V.ins v (da, dq)).length) := by
                rw [unhide HINS, V.put_len (by rw [← unhide HNV]; exact hqn), ← unhide HNV]; exact unhide HN4'
              go_wp2_with (first
                | (refine wpList_store_mid (by rfl) 29 (.tmp 88) (.tmp 87) (by rfl) g4 (q * 2) #[.int .u32 (da : Int), .int .u64 (dq : Int)] (by with_unfolding_all rfl) (by with_unfolding_all rfl) (unhide HTH) dotInfo (dot_one _ _) ?_; simp only [Act.put])
                | fail)
              go_roundw
              case rel => exact ⟨V.ins v (da, dq), some ⟨g4, 0, none⟩, n4, i + 1, c4, rfl, by go_num, by omega, by have := unhide HN4'; omega, unhide HLN, ⟨unhide HS6, belowCells (unhide HJ).2.1 (unhide HGN) _ _⟩, unhide HFI, unhide HST⟩
              case measure => simp [intOf]; omega
    · have HE : Hid (V.mkv most [] l = v) := by
        rw [unhide HM]
        by_cases h1 : i < nl
        · exact V.mkv_full (by rw [← unhide HNV]; omega)
        · rw [List.drop_of_length_le (by rw [← unhide HNL]; omega)]; exact rfl
      by_cases h1 : i < nl
      · have h1i : (i : Int) < (nl : Int) := by omega
        have h2i : ¬ (n : Int) < (most : Int) := by omega
        go_wp2
        go_ret
        exact ⟨xo, c3, by rw [unhide HE, ← unhide HNV]; rfl, by rw [unhide HE]; exact (unhide HI).1, by rw [unhide HE]; exact unhide HFV, (unhide HI).2⟩
      · have h1i : ¬ (i : Int) < (nl : Int) := by omega
        go_wp2
        go_ret
        exact ⟨xo, c3, by rw [unhide HE, ← unhide HNV]; rfl, by rw [unhide HE]; exact (unhide HI).1, by rw [unhide HE]; exact unhide HFV, (unhide HI).2⟩
end Go.Proofs.Ytajflgonhomkfaa
