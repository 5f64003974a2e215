/- States: a sibling between others. -/
import Derived.Test.YtkcbljmjhlnjpaaQ10
import Derived.ArgAppend
namespace Go.Proofs.Ytkcbljmjhlnjpaa
open Go.RowKit Go.Lib
/-- a sibling at its place -/
def btw : List Sb → Sb → List Sb
  | [], x => [x]
  | y :: l, x => if ah y.dot x.dot then y :: btw l x else x :: y :: l
theorem btw_at {l : List Sb} {x : Sb} {k : Nat} (hk : k ≤ l.length) (h1 : ∀ j (h : j < l.length), j < k → ah l[j].dot x.dot) (h2 : ∀ h : k < l.length, ¬ ah l[k].dot x.dot) : btw l x = l.take k ++ x :: l.drop k := by
  induction l generalizing k with
  | nil => simp [btw]
  | cons y l ih =>
    cases k with
    | zero => rw [btw, if_neg (show ¬ ah y.dot x.dot from h2 (by simp))]; rfl
    | succ k =>
      have h0 := h1 0 (by simp) (by omega)
      rw [List.getElem_cons_zero] at h0
      rw [btw, if_pos h0, ih (by simpa using hk) (fun j hj hjk => by have := h1 (j + 1) (by simpa using hj) (by omega); rw [List.getElem_cons_succ] at this; exact this) (fun h => by have := h2 (by simpa using h); rw [List.getElem_cons_succ] at this; exact this)]
      rfl
theorem btw_len (l : List Sb) (x : Sb) : (btw l x).length = l.length + 1 := by
  induction l with
  | nil => rfl
  | cons y l ih => rw [btw]; split <;> simp [ih]
theorem mem_btw {l : List Sb} {x z : Sb} : z ∈ btw l x ↔ z = x ∨ z ∈ l := by
  induction l with
  | nil => simp [btw]
  | cons y l ih =>
    rw [btw]
    split
    · rw [List.mem_cons, ih, List.mem_cons]
      constructor
      · rintro (h | h | h)
        · exact .inr (.inl h)
        · exact .inl h
        · exact .inr (.inr h)
      · rintro (h | h | h)
        · exact .inr (.inl h)
        · exact .inl h
        · exact .inr (.inr h)
    · rw [List.mem_cons, List.mem_cons]
theorem rise_btw {l : List Sb} {x : Sb} (h : Rise l) (hn : ∀ y ∈ l, y.dot ≠ x.dot) : Rise (btw l x) := by
  induction l with
  | nil => exact List.pairwise_singleton _ _
  | cons y l ih =>
    have hp := List.pairwise_cons.1 h
    rw [btw]
    split
    · rename_i hy
      refine List.pairwise_cons.2 ⟨fun z hz => ?_, ih hp.2 fun z hz => hn z (List.mem_cons_of_mem _ hz)⟩
      rcases mem_btw.1 hz with rfl | hz
      · exact hy
      · exact hp.1 z hz
    · rename_i hy
      have hxy := ah_total hy (hn y (List.mem_cons_self ..))
      refine List.pairwise_cons.2 ⟨fun z hz => ?_, h⟩
      rcases List.mem_cons.1 hz with rfl | hz
      · exact hxy
      · exact ah_trans hxy (hp.1 z hz)
/-- a list cut with its room -/
theorem cutS (w : World) (l : List Sb) (ao : Option Addr) (n c k : Nat) (hn : n = l.length) (hk : k ≤ n) (h : Dw w l ao c) : Dw w (l.take k) ao k ∧ ∀ W : World, (Instr.slice 29 (.slice ao n c) none (some (.int .i64 (k : Int))) (some (.int .i64 (k : Int)))).run Try.prog W = .ok (.slice ao k k) W := by
  subst hn
  have hc := h.cap
  have he : Try.prog.elem 29 = 69 := by kernel_rfl
  refine ⟨⟨Lies.pre (ys := flatS (l.drop k)) (by rw [← flatS_app, List.take_append_drop]; exact h.lies), by rw [List.length_take]; omega, fun e => by have := h.nil e; omega⟩, fun W => ?_⟩
  rw [run_slice_hm W 29 _ _ _ (by rw [he]; exact undS) .i64 .i64 (k : Int) (k : Int) (by omega) (by omega) (by omega), he, sizeN (n := 4) (by kernel_rfl)]
  simp only [Result.andThen_ok, sliced, Int.toNat_natCast, Nat.sub_zero, Nat.zero_mul]
  cases ao with
  | none => simp
  | some ad =>
    obtain ⟨g, o, i⟩ := ad
    by_cases hl : 0 < l.length
    · obtain ⟨g', o', e, _⟩ := h.lies (by rw [flatS_len]; omega)
      cases e
      have h0 : (Addr.mk g o none).add 0 = ⟨g, o, none⟩ := by rw [Addr.add_mid]; rfl
      simp [h0]
    · have : k = 0 := by omega
      subst this
      simp
/-- a list without its first k -/
theorem dropS (w : World) (l : List Sb) (ao : Option Addr) (n c k : Nat) (hn : n = l.length) (hk : k ≤ n) (h : Dw w l ao c) : ∃ ao' c', Dw w (l.drop k) ao' c' ∧ ∀ W : World, (Instr.slice 29 (.slice ao n c) (some (.int .i64 (k : Int))) none none).run Try.prog W = .ok (.slice ao' (n - k) c') W := by
  subst hn
  have hc := h.cap
  have he : Try.prog.elem 29 = 69 := by kernel_rfl
  have hrun : ∀ W : World, (Instr.slice 29 (.slice ao l.length c) (some (.int .i64 (k : Int))) none none).run Try.prog W = .ok (sliced ao k l.length c 4) W := fun W => by
    rw [run_slice_l W 29 _ _ _ (by rw [he]; exact undS) .i64 (k : Int) (by omega) (by omega), he, sizeN (n := 4) (by kernel_rfl)]
    simp only [Result.andThen_ok, Int.toNat_natCast]
  cases ao with
  | none =>
    have := h.nil rfl
    have h0 : l.length = 0 := by omega
    have hk0 : k = 0 := by omega
    subst hk0
    refine ⟨none, c, ⟨fun hx => ?_, by rw [List.length_drop]; omega, fun _ => by omega⟩, fun W => by rw [hrun]; simp [sliced]⟩
    rw [List.eq_nil_of_length_eq_zero h0] at hx; simp [flatS] at hx
  | some ad =>
    refine ⟨if c = k then some ad else some (ad.add (k * 4)), c - k, ⟨fun hx => ?_, by rw [List.length_drop]; omega, fun e => by split at e <;> cases e⟩, fun W => by rw [hrun]; simp [sliced]⟩
    rw [flatS_len, List.length_drop] at hx
    obtain ⟨g, o, e, hr⟩ := h.lies (by rw [flatS_len]; omega)
    cases e
    refine ⟨g, o + k * 4, by rw [if_neg (by omega), Addr.add_mid], fun j v hv => ?_⟩
    have := hr (k * 4 + j) v (by
      have e2 : flatS l = flatS (l.take k) ++ flatS (l.drop k) := by rw [← flatS_app, List.take_append_drop]
      rw [e2, List.getElem?_append_right (by rw [flatS_len, List.length_take]; omega), flatS_len, List.length_take]
      rw [show k * 4 + j - min k l.length * 4 = j by omega]
      exact hv)
    rw [show o + k * 4 + j = o + (k * 4 + j) by omega]
    exact this
/-- append onto a list that is full -/
theorem wp_fullS {o : Oper} {a : Act} {w : World} {K : Act → World → Prop} {Q : Exit → Act → World → Prop} (s x : Operand) (ho : o.op = .call { callee := .builtin .append, args := #[s, x], argTypes := #[29, 29] }) (d : Option Tmp) (hd : o.dst = d)
    (l m : List Sb) (n1 n2 : Nat) (e1 : n1 = l.length) (e2 : n2 = m.length) (ao : Option Addr) (ad : Addr) (c2 : Nat) (hs : a.eval s = .slice ao n1 n1) (hx : a.eval x = .slice (some ad) n2 c2) (hown : Dw w l ao n1) (hm : Dw w m (some ad) c2) (h0 : 0 < n2) (hl : l.length + m.length ≤ 1000)
    (h : ∀ ao' n' c' w', Hid (n' = (l ++ m).length) → Hid (OwnS w' w.heap.size (l ++ m) ao' c') → Hid (Below w.heap.size w w') → K (a.put d (.slice ao' n' c')) w') : o.wp Try.prog a w K Q := by
  subst hd e1 e2
  obtain ⟨i, hi, hz, hsz, hby⟩ := sib_parts
  cases ao with
  | none =>
    obtain rfl : l = [] := List.eq_nil_of_length_eq_zero (hown.nil rfl)
    obtain ⟨ao', c', w', hr, h1, h2, h3⟩ := run_putS w o.type w.heap.size [] m none (some ad) 0 c2 (OwnS.nil _ _) hm (by simp only [List.length_nil] at hl ⊢; omega) (Nat.le_refl _)
    unfold Oper.wp execOp
    rw [show (Value.slice none ([] : List Sb).length ([] : List Sb).length) = .slice none 0 0 from rfl] at hs
    rw [show (Value.slice none ([] : List Sb).length 0) = .slice none 0 0 from rfl] at hr h2
    simp only [ho, resolve, invoke, builtin, Sem.run_bind, Sem.run_pure, Result.andThen_ok, List.map_toArray, List.map_cons, List.map_nil, hs, hx, hr]
    exact h ao' _ c' w' rfl h1 ((Below.refl _ w).grown h2 (Nat.le_refl _) fun k hk => by cases hk)
  | some b =>
    obtain ⟨v', w', hr, h1, h2⟩ := run_append_arg_grows (P := Try.prog) w 29 o.type 69 i _ 4 40 undS hi hz hsz hby rfl (by decide) b l.length l.length (flatS l) (flatS_len l) (fun j v hv => by
      obtain ⟨g, o, e, hr⟩ := hown.lies (by have := (List.getElem?_eq_some_iff.1 hv).1; omega)
      cases e
      rw [Addr.add_mid]; exact hr j v hv) ad m.length c2 (flatS m) (flatS_len m) (fun j v hv => by
      obtain ⟨g, o, e, hr⟩ := hm.lies (by have := (List.getElem?_eq_some_iff.1 hv).1; omega)
      cases e
      rw [Addr.add_mid]; exact hr j v hv) (by omega) (by unfold maxLen; omega) (by omega)
    obtain ⟨ao', c', rfl⟩ := W.owns_shape h1
    rw [← List.length_append, ← flatS_app] at h1
    rw [← List.length_append] at hr
    unfold Oper.wp execOp
    simp only [ho, resolve, invoke, builtin, Sem.run_bind, Sem.run_pure, Result.andThen_ok, List.map_toArray, List.map_cons, List.map_nil, hs, hx, hr]
    exact h ao' _ c' w' rfl h1 ((Below.refl _ w).grown h2 (Nat.le_refl _) fun k hk => by cases hk)
set_option maxRecDepth 100000 in
set_option maxHeartbeats 4000000 in
theorem dBetween (l : List Sb) (x : Sb) (ao : Option Addr) (c n : Nat) (en : n = l.length) (u : World) (hl : Dw u l ao c) (hlen : l.length ≤ 128) :
    Calls Try.prog 134 #[.slice ao n c, x.v] u fun e u' => ∃ xo m c', e = .returned (.slice xo m c') ∧ m = (btw l x).length ∧ OwnS u' u.heap.size (btw l x) xo c' ∧ Below u.heap.size u u' := by
  have hmix : Try.prog.follows .mixedOrders = true := by kernel_rfl
  obtain ⟨N, hN⟩ : ∃ N, N = u.heap.size := ⟨_, rfl⟩
  have HN := hide hN
  have HL := hide hl
  have EN := hide en
  have HLE := hide hlen
  rw [← hN]
  have hni : (n : Int) ≤ 128 := by omega
  clear hN hl hlen en
  have HAT : Hid (∀ k, k ≤ l.length → (∀ j (h : j < l.length), j < k → ah l[j].dot x.dot) → (∀ h : k < l.length, ¬ ah l[k].dot x.dot) → btw l x = l.take k ++ x :: l.drop k) := fun k h0 h1 h2 => btw_at h0 h1 h2
  generalize btw l x = R at *
  go_enter Try.func134, Try.ntmps134
  go_wp2_with (first
    | ((with_reducible refine wpList_box_sib (by rfl) (.tmp 1) (by rfl) (some 3) (by rfl) N (unhide HN) x (by with_unfolding_all rfl) ?_); intro W1 HX1 HB1 HS1; simp only [Act.put, List.setIfInBounds_toArray, List.set_cons_zero, List.set_cons_succ])
    | fail)
  have HL1 : Hid (Dw W1 l ao c) := (unhide HL).below (by rw [← unhide HN]; exact unhide HB1)
  have HU : Hid (∀ W : World, Below W1.heap.size W1 W → Below N u W) := fun W hW => (unhide HB1).trans (hW.mono (by rw [unhide HS1]; omega))
  have HNS : Hid (N ≤ W1.heap.size) := by rw [unhide HS1]; show N ≤ N + 1; omega
  clear HL HB1 HS1
  go_loopw [5] (fun s5 wr => ∃ k : Nat, k ≤ n ∧ s5 = .int .i64 k ∧ Hid (Below W1.heap.size W1 wr ∧ ∀ j (h : j < l.length), j < k → ah l[j].dot x.dot)) (fun s5 _ => n - (intOf s5).toNat)
  case atStart => exact ⟨0, Nat.zero_le _, rfl, Below.refl _ _, fun j _ hj => absurd hj (Nat.not_lt_zero _)⟩
  case round =>
    obtain ⟨k, hk, rfl, HI⟩ := hrel
    by_cases hlt : k < n
    · have hki : (k : Int) < (n : Int) := by omega
      have hkd : decide ((k : Int) < (n : Int)) = true := decide_eq_true hki
      have hkn : decide (k < n) = true := decide_eq_true hlt
      have hkl : k < l.length := by rw [← unhide EN]; exact hlt
      obtain ⟨g, o, hao, x1, x2, x3, x4⟩ := (unhide HL1).lies.sb hkl
      subst hao
      have hix := ixS g o n c k hlt
      have HAK := hide (fun (h : ah l[k].dot x.dot) => show ∀ j (h : j < l.length), j < k + 1 → ah l[j].dot x.dot from fun j hj hjk => by
        rcases Nat.lt_succ_iff_lt_or_eq.1 hjk with h' | rfl
        · exact (unhide HI).2 j hj h'
        · exact h)
      have HNK := hide (fun (h : ¬ ah l[k].dot x.dot) => unhide HAT k (by omega) (unhide HI).2 fun _ => h)
      have HBI := hide (unhide HI).1
      clear HI
      generalize l[k] = q at *
      have x1 : W1.cell? ⟨g, o + k * 4, none⟩ = some (.int .u32 (q.a : Int)) := x1
      have x2 : W1.cell? ⟨g, o + k * 4 + 1, none⟩ = some (.int .u64 (q.c : Int)) := x2
      clear x3 x4
      generalize o + k * 4 = oo at *
      have hC1 : ∀ W : World, Below W1.heap.size W1 W → W.cell? ⟨g, oo, none⟩ = some (.int .u32 (q.a : Int)) ∧ W.cell? ⟨g, oo + 1, none⟩ = some (.int .u64 (q.c : Int)) := fun W hW => ⟨cell_keep rfl hW x1, cell_keep rfl hW x2⟩
      have hC2 : ∀ W : World, Below W1.heap.size W1 W → W.cell? ⟨N, 0, none⟩ = some (.int .u32 (x.a : Int)) ∧ W.cell? ⟨N, 1, none⟩ = some (.int .u64 (x.c : Int)) ∧ W.cell? ⟨N, 2, none⟩ = some (.bool x.gone) ∧ W.cell? ⟨N, 3, none⟩ = some (.string x.val) := fun W hW => sib_cells (box_below (unhide HX1) hW)
      clear x1 x2
      have HCA := hide (fun (W : World) => asV (dAhead q.a q.c x.a x.c W))
      rcases bool_cases (ahB_true (d := (q.a, q.c)) (e := (x.a, x.c))) with ⟨hah, hah2⟩ | ⟨hah, hah2⟩ <;> rw [hah] at HCA <;> clear hah
      · have HA1 := hide (unhide HAK hah2)
        clear HAK HNK hah2
        go_wp2_with fail
        refine wp_region_last (fun W => Below W1.heap.size W1 W) 13 hmix (belowDrew (unhide HBI)) fun hS => ?_
        generalize wr.drew = X0 at hS ⊢
        refine wpAnyL_take 0 7 (.int .i64 (k : Int)) [3, 4] rfl rfl (by kernel_rfl) (by kernel_rfl) (by kernel_rfl) (by kernel_rfl) (by kernel_rfl) (fun _ _ _ h => h) (by rfl) (fun _ _ => by go_simp) hS ?_
        simp only [Act.put, List.setIfInBounds_toArray, List.set_cons_zero, List.set_cons_succ]
        refine wpAnyL_take 1 8 (.slice (some ⟨g, o, none⟩) n c) [2, 3, 4] rfl rfl (by kernel_rfl) (by kernel_rfl) (by kernel_rfl) (by kernel_rfl) (by kernel_rfl) (fun _ _ _ h => h) (by rfl) (fun _ _ => by go_simp) hS ?_
        simp only [Act.put, List.setIfInBounds_toArray, List.set_cons_zero, List.set_cons_succ]
        refine wpAnyL_take 2 9 (.int .i64 (n : Int)) [3, 4] rfl rfl (by kernel_rfl) (by kernel_rfl) (by kernel_rfl) (by kernel_rfl) (by kernel_rfl) (fun _ _ _ h => h) (by rfl) (fun _ _ => by go_simp) hS ?_
        simp only [Act.put, List.setIfInBounds_toArray, List.set_cons_zero, List.set_cons_succ]
        refine wpAnyL_take 3 10 (.bool true) [4] rfl rfl (by kernel_rfl) (by kernel_rfl) (by kernel_rfl) (by kernel_rfl) (by kernel_rfl) (fun _ _ _ h => h) (by rfl) (fun _ _ => by go_simp) hS ?_
        simp only [Act.put, List.setIfInBounds_toArray, List.set_cons_zero, List.set_cons_succ]
        refine wpAnyL_take 4 11 (.bool true) [] rfl rfl (by kernel_rfl) (by kernel_rfl) (by kernel_rfl) (by kernel_rfl) (by kernel_rfl) (fun _ _ _ h => h) (by rfl) (fun _ _ => by go_simp) hS ?_
        simp only [Act.put, List.setIfInBounds_toArray, List.set_cons_zero, List.set_cons_succ]
        refine wpAnyL_take 5 12 (.slice (some ⟨g, o, none⟩) n c) [7, 8, 9, 12] rfl rfl (by kernel_rfl) (by kernel_rfl) (by kernel_rfl) (by kernel_rfl) (by kernel_rfl) (fun _ _ _ h => h) (by rfl) (fun _ _ => by go_simp) hS ?_
        simp only [Act.put, List.setIfInBounds_toArray, List.set_cons_zero, List.set_cons_succ]
        refine wpAnyL_take 6 13 (.int .i64 (k : Int)) [7, 8, 9, 12] rfl rfl (by kernel_rfl) (by kernel_rfl) (by kernel_rfl) (by kernel_rfl) (by kernel_rfl) (fun _ _ _ h => h) (by rfl) (fun _ _ => by go_simp) hS ?_
        simp only [Act.put, List.setIfInBounds_toArray, List.set_cons_zero, List.set_cons_succ]
        refine wpAnyL_take 7 14 (.pointer (some ⟨g, oo, none⟩)) [8, 9, 12] rfl rfl (by kernel_rfl) (by kernel_rfl) (by kernel_rfl) (by kernel_rfl) (by kernel_rfl) (fun _ _ _ h => h) (by rfl) (fun _ _ => by go_simp) hS ?_
        simp only [Act.put, List.setIfInBounds_toArray, List.set_cons_zero, List.set_cons_succ]
        refine wpAnyL_take 8 15 (.pointer (some ⟨g, oo, none⟩)) [9, 12] rfl rfl (by kernel_rfl) (by kernel_rfl) (by kernel_rfl) (by kernel_rfl) (by kernel_rfl) (fun _ _ _ h => h) (by rfl) (fun _ _ => by go_simp) hS ?_
        simp only [Act.put, List.setIfInBounds_toArray, List.set_cons_zero, List.set_cons_succ]
        refine wpAnyL_take 9 16 (.agg #[.int .u32 (q.a : Int), .int .u64 (q.c : Int)]) [12] rfl rfl (by kernel_rfl) (by kernel_rfl) (by kernel_rfl) (by kernel_rfl) (by kernel_rfl) (fun _ _ _ h => h) (by rfl) (fun W hW => by obtain ⟨e1, e2⟩ := hC1 W hW; go_simp) hS ?_
        simp only [Act.put, List.setIfInBounds_toArray, List.set_cons_zero, List.set_cons_succ]
        refine wpAnyL_take 10 17 (.pointer (some ⟨N, 0, none⟩)) [11, 12] rfl rfl (by kernel_rfl) (by kernel_rfl) (by kernel_rfl) (by kernel_rfl) (by kernel_rfl) (fun _ _ _ h => h) (by rfl) (fun _ _ => by go_simp) hS ?_
        simp only [Act.put, List.setIfInBounds_toArray, List.set_cons_zero, List.set_cons_succ]
        refine wpAnyL_take 11 18 (.agg #[.int .u32 (x.a : Int), .int .u64 (x.c : Int)]) [12] rfl rfl (by kernel_rfl) (by kernel_rfl) (by kernel_rfl) (by kernel_rfl) (by kernel_rfl) (fun _ _ _ h => h) (by rfl) (fun W hW => by obtain ⟨e1, e2, e3, e4⟩ := hC2 W hW; go_simp) hS ?_
        simp only [Act.put, List.setIfInBounds_toArray, List.set_cons_zero, List.set_cons_succ]
        refine wpAnyL_one (i := 12) (by kernel_rfl) rfl (by rfl) fun K hK => ?_
        refine wp_call_fn 123 _ _ (by rfl) #[.agg #[.int .u32 (q.a : Int), .int .u64 (q.c : Int)], .agg #[.int .u32 (x.a : Int), .int .u64 (x.c : Int)]] (by with_unfolding_all rfl) entAh (some 19) (by rfl) _ (unhide HCA _) ?_
        rintro _ X ⟨rfl, hbe⟩
        have HBX : Hid (Below W1.heap.size W1 X) := hS.trans (hbe.mono hS.size)
        clear hbe
        refine hK _ _ (fun _ => unhide HBX) ?_
        clear hK K
        simp only [Act.put, List.setIfInBounds_toArray, List.set_cons_zero, List.set_cons_succ]
        refine wpAnyL_one (i := 13) (by kernel_rfl) rfl (by rfl) fun K hK => ?_
        refine wp_val (.bool true) (by go_simp) (some 20) (by rfl) ?_
        refine hK _ _ (fun _ => unhide HBX) ?_
        clear hK K
        simp only [Act.put, List.setIfInBounds_toArray, List.set_cons_zero, List.set_cons_succ]
        refine wpAnyL_done (by kernel_rfl) ?_ _
        go_wp2
        go_roundw
        case rel => exact ⟨k + 1, by omega, by go_num, unhide HBX, unhide HA1⟩
        case measure => simp [intOf]; omega
      · have HR := hide (unhide HNK hah2)
        clear HAK HNK hah2
        go_wp2_with fail
        refine wp_region_last (fun W => Below W1.heap.size W1 W) 13 hmix (belowDrew (unhide HBI)) fun hS => ?_
        generalize wr.drew = X0 at hS ⊢
        refine wpAnyL_take 0 7 (.int .i64 (k : Int)) [3, 4] rfl rfl (by kernel_rfl) (by kernel_rfl) (by kernel_rfl) (by kernel_rfl) (by kernel_rfl) (fun _ _ _ h => h) (by rfl) (fun _ _ => by go_simp) hS ?_
        simp only [Act.put, List.setIfInBounds_toArray, List.set_cons_zero, List.set_cons_succ]
        refine wpAnyL_take 1 8 (.slice (some ⟨g, o, none⟩) n c) [2, 3, 4] rfl rfl (by kernel_rfl) (by kernel_rfl) (by kernel_rfl) (by kernel_rfl) (by kernel_rfl) (fun _ _ _ h => h) (by rfl) (fun _ _ => by go_simp) hS ?_
        simp only [Act.put, List.setIfInBounds_toArray, List.set_cons_zero, List.set_cons_succ]
        refine wpAnyL_take 2 9 (.int .i64 (n : Int)) [3, 4] rfl rfl (by kernel_rfl) (by kernel_rfl) (by kernel_rfl) (by kernel_rfl) (by kernel_rfl) (fun _ _ _ h => h) (by rfl) (fun _ _ => by go_simp) hS ?_
        simp only [Act.put, List.setIfInBounds_toArray, List.set_cons_zero, List.set_cons_succ]
        refine wpAnyL_take 3 10 (.bool true) [4] rfl rfl (by kernel_rfl) (by kernel_rfl) (by kernel_rfl) (by kernel_rfl) (by kernel_rfl) (fun _ _ _ h => h) (by rfl) (fun _ _ => by go_simp) hS ?_
        simp only [Act.put, List.setIfInBounds_toArray, List.set_cons_zero, List.set_cons_succ]
        refine wpAnyL_take 4 11 (.bool true) [] rfl rfl (by kernel_rfl) (by kernel_rfl) (by kernel_rfl) (by kernel_rfl) (by kernel_rfl) (fun _ _ _ h => h) (by rfl) (fun _ _ => by go_simp) hS ?_
        simp only [Act.put, List.setIfInBounds_toArray, List.set_cons_zero, List.set_cons_succ]
        refine wpAnyL_take 5 12 (.slice (some ⟨g, o, none⟩) n c) [7, 8, 9, 12] rfl rfl (by kernel_rfl) (by kernel_rfl) (by kernel_rfl) (by kernel_rfl) (by kernel_rfl) (fun _ _ _ h => h) (by rfl) (fun _ _ => by go_simp) hS ?_
        simp only [Act.put, List.setIfInBounds_toArray, List.set_cons_zero, List.set_cons_succ]
        refine wpAnyL_take 6 13 (.int .i64 (k : Int)) [7, 8, 9, 12] rfl rfl (by kernel_rfl) (by kernel_rfl) (by kernel_rfl) (by kernel_rfl) (by kernel_rfl) (fun _ _ _ h => h) (by rfl) (fun _ _ => by go_simp) hS ?_
        simp only [Act.put, List.setIfInBounds_toArray, List.set_cons_zero, List.set_cons_succ]
        refine wpAnyL_take 7 14 (.pointer (some ⟨g, oo, none⟩)) [8, 9, 12] rfl rfl (by kernel_rfl) (by kernel_rfl) (by kernel_rfl) (by kernel_rfl) (by kernel_rfl) (fun _ _ _ h => h) (by rfl) (fun _ _ => by go_simp) hS ?_
        simp only [Act.put, List.setIfInBounds_toArray, List.set_cons_zero, List.set_cons_succ]
        refine wpAnyL_take 8 15 (.pointer (some ⟨g, oo, none⟩)) [9, 12] rfl rfl (by kernel_rfl) (by kernel_rfl) (by kernel_rfl) (by kernel_rfl) (by kernel_rfl) (fun _ _ _ h => h) (by rfl) (fun _ _ => by go_simp) hS ?_
        simp only [Act.put, List.setIfInBounds_toArray, List.set_cons_zero, List.set_cons_succ]
        refine wpAnyL_take 9 16 (.agg #[.int .u32 (q.a : Int), .int .u64 (q.c : Int)]) [12] rfl rfl (by kernel_rfl) (by kernel_rfl) (by kernel_rfl) (by kernel_rfl) (by kernel_rfl) (fun _ _ _ h => h) (by rfl) (fun W hW => by obtain ⟨e1, e2⟩ := hC1 W hW; go_simp) hS ?_
        simp only [Act.put, List.setIfInBounds_toArray, List.set_cons_zero, List.set_cons_succ]
        refine wpAnyL_take 10 17 (.pointer (some ⟨N, 0, none⟩)) [11, 12] rfl rfl (by kernel_rfl) (by kernel_rfl) (by kernel_rfl) (by kernel_rfl) (by kernel_rfl) (fun _ _ _ h => h) (by rfl) (fun _ _ => by go_simp) hS ?_
        simp only [Act.put, List.setIfInBounds_toArray, List.set_cons_zero, List.set_cons_succ]
        refine wpAnyL_take 11 18 (.agg #[.int .u32 (x.a : Int), .int .u64 (x.c : Int)]) [12] rfl rfl (by kernel_rfl) (by kernel_rfl) (by kernel_rfl) (by kernel_rfl) (by kernel_rfl) (fun _ _ _ h => h) (by rfl) (fun W hW => by obtain ⟨e1, e2, e3, e4⟩ := hC2 W hW; go_simp) hS ?_
        simp only [Act.put, List.setIfInBounds_toArray, List.set_cons_zero, List.set_cons_succ]
        refine wpAnyL_one (i := 12) (by kernel_rfl) rfl (by rfl) fun K hK => ?_
        refine wp_call_fn 123 _ _ (by rfl) #[.agg #[.int .u32 (q.a : Int), .int .u64 (q.c : Int)], .agg #[.int .u32 (x.a : Int), .int .u64 (x.c : Int)]] (by with_unfolding_all rfl) entAh (some 19) (by rfl) _ (unhide HCA _) ?_
        rintro _ X ⟨rfl, hbe⟩
        have HBX : Hid (Below W1.heap.size W1 X) := hS.trans (hbe.mono hS.size)
        clear hbe
        refine hK _ _ (fun _ => unhide HBX) ?_
        clear hK K
        simp only [Act.put, List.setIfInBounds_toArray, List.set_cons_zero, List.set_cons_succ]
        refine wpAnyL_one (i := 13) (by kernel_rfl) rfl (by rfl) fun K hK => ?_
        refine wp_val (.bool false) (by go_simp) (some 20) (by rfl) ?_
        refine hK _ _ (fun _ => unhide HBX) ?_
        clear hK K
        simp only [Act.put, List.setIfInBounds_toArray, List.set_cons_zero, List.set_cons_succ]
        refine wpAnyL_done (by kernel_rfl) ?_ _
        have HDX : Hid (Dw X l (some ⟨g, o, none⟩) c) := (unhide HL1).below (unhide HBX)
        have hao : some (Addr.mk g o none) = some ⟨g, o, none⟩ := rfl
        generalize some (Addr.mk g o none) = ao at HDX ⊢
        obtain ⟨hct, hr1⟩ := cutS X l ao n c k (unhide EN) hk (unhide HDX)
        obtain ⟨ta, tc, htl, hr2⟩ := dropS X l ao n c k (unhide EN) hk (unhide HDX)
        have HKT : Hid (k = (l.take k).length) := by rw [List.length_take, ← unhide EN]; exact (Nat.min_eq_left hk).symm
        have HKD : Hid (n - k = (l.drop k).length) := by rw [List.length_drop, ← unhide EN]; exact rfl
        have HCT : Hid (Dw X.drew (l.take k) ao k) := hct.below (belowDrew (Below.refl _ _))
        have HTL := hide htl
        clear hct htl
        generalize hnk : n - k = nk at HKD hr2
        clear hnk
        go_wp2_with fail
        refine wp_region_last (fun W => Below W1.heap.size W1 W) 7 hmix (belowDrew (unhide HBX)) fun hS => ?_
        have HXX : Hid (Below X.heap.size X X.drew) := belowDrew (Below.refl _ _)
        generalize X.drew = X0 at hS HCT HXX ⊢
        refine wpAnyL_take 0 23 (.slice ao n c) [] rfl rfl (by kernel_rfl) (by kernel_rfl) (by kernel_rfl) (by kernel_rfl) (by kernel_rfl) (fun _ _ _ h => h) (by rfl) (fun _ _ => by go_simp) hS ?_
        simp only [Act.put, List.setIfInBounds_toArray, List.set_cons_zero, List.set_cons_succ]
        refine wpAnyL_take 1 24 (.int .i64 (k : Int)) [] rfl rfl (by kernel_rfl) (by kernel_rfl) (by kernel_rfl) (by kernel_rfl) (by kernel_rfl) (fun _ _ _ h => h) (by rfl) (fun _ _ => by go_simp) hS ?_
        simp only [Act.put, List.setIfInBounds_toArray, List.set_cons_zero, List.set_cons_succ]
        refine wpAnyL_take 2 25 (.int .i64 (k : Int)) [] rfl rfl (by kernel_rfl) (by kernel_rfl) (by kernel_rfl) (by kernel_rfl) (by kernel_rfl) (fun _ _ _ h => h) (by rfl) (fun _ _ => by go_simp) hS ?_
        simp only [Act.put, List.setIfInBounds_toArray, List.set_cons_zero, List.set_cons_succ]
        refine wpAnyL_take 3 26 (.slice ao k k) [] rfl rfl (by kernel_rfl) (by kernel_rfl) (by kernel_rfl) (by kernel_rfl) (by kernel_rfl) (fun _ _ _ h => h) (by rfl) (fun _ _ => by go_simp) hS ?_
        simp only [Act.put, List.setIfInBounds_toArray, List.set_cons_zero, List.set_cons_succ]
        refine wpAnyL_take 4 27 (x.v) [] rfl rfl (by kernel_rfl) (by kernel_rfl) (by kernel_rfl) (by kernel_rfl) (by kernel_rfl) (fun _ _ _ h => h) (by rfl) (fun W hW => by obtain ⟨e1, e2, e3, e4⟩ := hC2 W hW; unfold Sb.v; go_simp) hS ?_
        simp only [Act.put, List.setIfInBounds_toArray, List.set_cons_zero, List.set_cons_succ]
        refine wpAnyL_one (i := 5) (by kernel_rfl) rfl (by rfl) fun K hK => ?_
        refine wp_buildTo (by rfl) _ _ (by simp only [List.map_toArray, List.map_cons, List.map_nil]; exact bsS X0 x) (some 28) (by rfl) ?_
        have hbe : Below X0.heap.size X0 (X0.alloc (.cells #[.int .u32 (x.a : Int), .int .u64 (x.c : Int), .bool x.gone, .string x.val] 69)) := (Below.refl _ _).alloc (Nat.le_refl _) _
        have HB6 := hide (hS.trans (hbe.mono hS.size))
        have HD6 := hide (Dw.one X0 x 69)
        have HC6 := hide ((unhide HCT).below hbe)
        generalize X0.alloc (.cells #[.int .u32 (x.a : Int), .int .u64 (x.c : Int), .bool x.gone, .string x.val] 69) = X6 at HB6 HD6 HC6 hbe ⊢
        have HX06 := hide hbe
        clear hbe
        have HS06 := hide (unhide HX06).size
        have HSB := hide (unhide HXX).size
        generalize X0.heap.size = B6 at HD6 HX06 HS06 HSB ⊢
        refine hK _ _ (fun _ => unhide HB6) ?_
        clear hK K
        simp only [Act.put, List.setIfInBounds_toArray, List.set_cons_zero, List.set_cons_succ]
        refine wpAnyL_one (i := 6) (by kernel_rfl) rfl (by rfl) fun K hK => ?_
        refine wp_fullS (.tmp 26) (.tmp 28) (by rfl) (some 29) (by rfl) (l.take k) [x] k 1 (unhide HKT) rfl ao ⟨B6, 0, none⟩ 1 (by rfl) (by rfl) (unhide HC6) (unhide HD6) (by decide) (by have := unhide HLE; simp only [List.length_take, List.length_cons, List.length_nil]; omega) ?_
        intro x7 n7 c7 X7 HN7 HO7 HBE7
        have HB7 : Hid (Below W1.heap.size W1 X7) := (unhide HB6).trans ((unhide HBE7).mono (unhide HB6).size)
        refine hK _ _ (fun _ => unhide HB7) ?_
        clear hK K
        simp only [Act.put, List.setIfInBounds_toArray, List.set_cons_zero, List.set_cons_succ]
        refine wpAnyL_one (i := 7) (by kernel_rfl) rfl (by rfl) fun K hK => ?_
        refine wp_val (.slice x7 n7 c7) (by go_simp) (some 6) (by rfl) ?_
        refine hK _ _ (fun _ => unhide HB7) ?_
        clear hK K
        simp only [Act.put, List.setIfInBounds_toArray, List.set_cons_zero, List.set_cons_succ]
        refine wpAnyL_done (by kernel_rfl) ?_ _
        go_wp2_with (first
          | (at_builtin; refine wpList_putS (by rfl) (.tmp 30) (.tmp 33) (by rfl) (some 34) (by rfl) W1.heap.size (l.take k ++ [x]) (l.drop k) n7 nk (unhide HN7) (unhide HKD) x7 ta c7 tc (by rfl) (by rfl) (own_down (unhide HO7) (unhide HB6).size) (Dw.below (unhide HTL) ((unhide HXX).trans (((unhide HX06).trans ((unhide HBE7).mono (unhide HS06))).mono (by have := (unhide HXX).size; exact Nat.le_trans (Nat.le_refl _) (unhide HSB))))) (by have := unhide HLE; simp only [List.length_append, List.length_take, List.length_drop, List.length_cons, List.length_nil]; omega) (unhide HB7).size ?_; intro x8 n8 c8 X8 HN8 HO8 _ HBE8 _; simp only [Act.put, List.setIfInBounds_toArray, List.set_cons_zero, List.set_cons_succ]; have HB8 : Hid (Below W1.heap.size W1 X8) := (unhide HB7).trans (unhide HBE8))
          | fail)
        go_ret
        refine ⟨x8, n8, c8, rfl, ?_, ?_, unhide HU _ (unhide HB8)⟩
        · rw [unhide HR, show l.take k ++ x :: l.drop k = l.take k ++ [x] ++ l.drop k by simp]; exact unhide HN8
        · rw [unhide HR, show l.take k ++ x :: l.drop k = l.take k ++ [x] ++ l.drop k by simp]; exact own_down (unhide HO8) (unhide HNS)
    · obtain rfl : k = n := by omega
      have hki : ¬ (k : Int) < (k : Int) := by omega
      have hkd : decide ((k : Int) < (k : Int)) = false := decide_eq_false hki
      have hkn : decide (k < k) = false := decide_eq_false (by omega)
      have HR : Hid (R = l.take k ++ x :: l.drop k) := unhide HAT k (by rw [unhide EN]; exact Nat.le_refl _) (unhide HI).2 fun h => absurd h (by rw [unhide EN]; exact Nat.lt_irrefl _)
      go_wp2_with fail
      go_quiet (fail)
      have HBX : Hid (Below W1.heap.size W1 (wr.drewN nq)) := belowDrewN (unhide HI).1 _
      generalize wr.drewN nq = X at HBX ⊢
      have HDX : Hid (Dw X l ao c) := (unhide HL1).below (unhide HBX)
      have hC2 : ∀ W : World, Below W1.heap.size W1 W → W.cell? ⟨N, 0, none⟩ = some (.int .u32 (x.a : Int)) ∧ W.cell? ⟨N, 1, none⟩ = some (.int .u64 (x.c : Int)) ∧ W.cell? ⟨N, 2, none⟩ = some (.bool x.gone) ∧ W.cell? ⟨N, 3, none⟩ = some (.string x.val) := fun W hW => sib_cells (box_below (unhide HX1) hW)
      obtain ⟨hct, hr1⟩ := cutS X l ao k c k (unhide EN) hk (unhide HDX)
      obtain ⟨ta, tc, htl, hr2⟩ := dropS X l ao k c k (unhide EN) hk (unhide HDX)
      have HKT : Hid (k = (l.take k).length) := by rw [List.length_take, ← unhide EN]; exact (Nat.min_eq_left hk).symm
      have HKD : Hid (k - k = (l.drop k).length) := by rw [List.length_drop, ← unhide EN]; exact rfl
      have HCT : Hid (Dw X.drew (l.take k) ao k) := hct.below (belowDrew (Below.refl _ _))
      have HTL := hide htl
      clear hct htl
      generalize hnk : k - k = nk at HKD hr2
      clear hnk
      go_wp2_with fail
      refine wp_region_last (fun W => Below W1.heap.size W1 W) 7 hmix (belowDrew (unhide HBX)) fun hS => ?_
      have HXX : Hid (Below X.heap.size X X.drew) := belowDrew (Below.refl _ _)
      generalize X.drew = X0 at hS HCT HXX ⊢
      refine wpAnyL_take 0 23 (.slice ao k c) [] rfl rfl (by kernel_rfl) (by kernel_rfl) (by kernel_rfl) (by kernel_rfl) (by kernel_rfl) (fun _ _ _ h => h) (by rfl) (fun _ _ => by go_simp) hS ?_
      simp only [Act.put, List.setIfInBounds_toArray, List.set_cons_zero, List.set_cons_succ]
      refine wpAnyL_take 1 24 (.int .i64 (k : Int)) [] rfl rfl (by kernel_rfl) (by kernel_rfl) (by kernel_rfl) (by kernel_rfl) (by kernel_rfl) (fun _ _ _ h => h) (by rfl) (fun _ _ => by go_simp) hS ?_
      simp only [Act.put, List.setIfInBounds_toArray, List.set_cons_zero, List.set_cons_succ]
      refine wpAnyL_take 2 25 (.int .i64 (k : Int)) [] rfl rfl (by kernel_rfl) (by kernel_rfl) (by kernel_rfl) (by kernel_rfl) (by kernel_rfl) (fun _ _ _ h => h) (by rfl) (fun _ _ => by go_simp) hS ?_
      simp only [Act.put, List.setIfInBounds_toArray, List.set_cons_zero, List.set_cons_succ]
      refine wpAnyL_take 3 26 (.slice ao k k) [] rfl rfl (by kernel_rfl) (by kernel_rfl) (by kernel_rfl) (by kernel_rfl) (by kernel_rfl) (fun _ _ _ h => h) (by rfl) (fun _ _ => by go_simp) hS ?_
      simp only [Act.put, List.setIfInBounds_toArray, List.set_cons_zero, List.set_cons_succ]
      refine wpAnyL_take 4 27 (x.v) [] rfl rfl (by kernel_rfl) (by kernel_rfl) (by kernel_rfl) (by kernel_rfl) (by kernel_rfl) (fun _ _ _ h => h) (by rfl) (fun W hW => by obtain ⟨e1, e2, e3, e4⟩ := hC2 W hW; unfold Sb.v; go_simp) hS ?_
      simp only [Act.put, List.setIfInBounds_toArray, List.set_cons_zero, List.set_cons_succ]
      refine wpAnyL_one (i := 5) (by kernel_rfl) rfl (by rfl) fun K hK => ?_
      refine wp_buildTo (by rfl) _ _ (by simp only [List.map_toArray, List.map_cons, List.map_nil]; exact bsS X0 x) (some 28) (by rfl) ?_
      have hbe : Below X0.heap.size X0 (X0.alloc (.cells #[.int .u32 (x.a : Int), .int .u64 (x.c : Int), .bool x.gone, .string x.val] 69)) := (Below.refl _ _).alloc (Nat.le_refl _) _
      have HB6 := hide (hS.trans (hbe.mono hS.size))
      have HD6 := hide (Dw.one X0 x 69)
      have HC6 := hide ((unhide HCT).below hbe)
      generalize X0.alloc (.cells #[.int .u32 (x.a : Int), .int .u64 (x.c : Int), .bool x.gone, .string x.val] 69) = X6 at HB6 HD6 HC6 hbe ⊢
      have HX06 := hide hbe
      clear hbe
      have HS06 := hide (unhide HX06).size
      have HSB := hide (unhide HXX).size
      generalize X0.heap.size = B6 at HD6 HX06 HS06 HSB ⊢
      refine hK _ _ (fun _ => unhide HB6) ?_
      clear hK K
      simp only [Act.put, List.setIfInBounds_toArray, List.set_cons_zero, List.set_cons_succ]
      refine wpAnyL_one (i := 6) (by kernel_rfl) rfl (by rfl) fun K hK => ?_
      refine wp_fullS (.tmp 26) (.tmp 28) (by rfl) (some 29) (by rfl) (l.take k) [x] k 1 (unhide HKT) rfl ao ⟨B6, 0, none⟩ 1 (by rfl) (by rfl) (unhide HC6) (unhide HD6) (by decide) (by have := unhide HLE; simp only [List.length_take, List.length_cons, List.length_nil]; omega) ?_
      intro x7 n7 c7 X7 HN7 HO7 HBE7
      have HB7 : Hid (Below W1.heap.size W1 X7) := (unhide HB6).trans ((unhide HBE7).mono (unhide HB6).size)
      refine hK _ _ (fun _ => unhide HB7) ?_
      clear hK K
      simp only [Act.put, List.setIfInBounds_toArray, List.set_cons_zero, List.set_cons_succ]
      refine wpAnyL_one (i := 7) (by kernel_rfl) rfl (by rfl) fun K hK => ?_
      refine wp_val (.slice x7 n7 c7) (by go_simp) (some 6) (by rfl) ?_
      refine hK _ _ (fun _ => unhide HB7) ?_
      clear hK K
      simp only [Act.put, List.setIfInBounds_toArray, List.set_cons_zero, List.set_cons_succ]
      refine wpAnyL_done (by kernel_rfl) ?_ _
      go_wp2_with (first
        | (at_builtin; refine wpList_putS (by rfl) (.tmp 30) (.tmp 33) (by rfl) (some 34) (by rfl) W1.heap.size (l.take k ++ [x]) (l.drop k) n7 nk (unhide HN7) (unhide HKD) x7 ta c7 tc (by rfl) (by rfl) (own_down (unhide HO7) (unhide HB6).size) (Dw.below (unhide HTL) ((unhide HXX).trans (((unhide HX06).trans ((unhide HBE7).mono (unhide HS06))).mono (by have := (unhide HXX).size; exact Nat.le_trans (Nat.le_refl _) (unhide HSB))))) (by have := unhide HLE; simp only [List.length_append, List.length_take, List.length_drop, List.length_cons, List.length_nil]; omega) (unhide HB7).size ?_; intro x8 n8 c8 X8 HN8 HO8 _ HBE8 _; simp only [Act.put, List.setIfInBounds_toArray, List.set_cons_zero, List.set_cons_succ]; have HB8 : Hid (Below W1.heap.size W1 X8) := (unhide HB7).trans (unhide HBE8))
        | fail)
      go_ret
      refine ⟨x8, n8, c8, rfl, ?_, ?_, unhide HU _ (unhide HB8)⟩
      · rw [unhide HR, show l.take k ++ x :: l.drop k = l.take k ++ [x] ++ l.drop k by simp]; exact unhide HN8
      · rw [unhide HR, show l.take k ++ x :: l.drop k = l.take k ++ [x] ++ l.drop k by simp]; exact own_down (unhide HO8) (unhide HNS)
end Go.Proofs.Ytkcbljmjhlnjpaa
