/- Put together out of Xib, Yk. -/
import Derived.Test.YtkcbljmjhlnjpaaQ09
namespace Go.Proofs.Ytkcbljmjhlnjpaa
open Go.RowKit

theorem run_max2 {o : Oper} {a : Act} {w : World} (p q m : Nat) {x y : Operand} {ats : Array TypeId} (ho : o.op = .call { callee := .builtin .max, args := #[x, y], argTypes := ats }) (hx : a.eval x = .int .u64 (p : Int)) (hy : a.eval y = .int .u64 (q : Int)) (hm : m = max p q) : (execOp a.eval o).run Try.prog w = .ok (.value (.int .u64 (m : Int))) w := by
  have hi : (if (q : Int) > (p : Int) then (q : Int) else (p : Int)) = (m : Int) := by split <;> omega
  unfold execOp
  simp only [ho, resolve, invoke, builtin, Sem.run_pure, List.map_toArray, List.map_cons, List.map_nil, hx, hy, Builtin.max_, Builtin.max2, List.foldlM_cons, List.foldlM_nil, pure_bind]
  rw [hi]
theorem wp_store_int {P : Program} {o : Oper} {a : Act} {w : World} {K : Act → World → Prop} {Q : Exit → Act → World → Prop} (ty : TypeId) (x y : Operand) (ho : o.op = .store ty x y) (hd : o.dst = none) (b k : Nat) (kd : IntKind) (v : Int) (hx : a.eval x = .pointer (some ⟨b, k, none⟩)) (hy : a.eval y = .int kd v)
    (ht : w.there b k 1) (hi : (P.info? ty).map (·.size) = some 1) (h : K a (w.setCells b k [.int kd v])) : o.wp P a w K Q := by
  have h1 : (storeVar ty ⟨b, k, none⟩ (.int kd v)).run P w = .ok () (w.setCells b k [.int kd v]) := run_storeVar_mid (P := P) w b k ty #[.int kd v] ht hi (by simp [Value.oneCell'])
  unfold Oper.wp execOp
  simp only [ho, hx, hy, Instr.storeAt, Instr.sureAddr, Sem.run_bind, Sem.run_pure, Result.andThen_ok, h1]
  exact (show K (a.put o.dst undef) _ by rw [hd]; exact h)
theorem flatD_setc : ∀ (l : List (Nat × Nat)) (k : Nat) (p : Nat) (hk : k < l.length), (flatD l).set (k * 2 + 1) (.int .u64 (p : Int)) = flatD (l.set k (l[k].1, p))
  | [], k, p, hk => by simp at hk
  | c :: cs, 0, p, _ => by simp [flatD, dcs]
  | c :: cs, k + 1, p, hk => by
    have ih := flatD_setc cs k p (by simpa using hk)
    have e : flatD (c :: cs) = .int .u32 (c.1 : Int) :: .int .u64 (c.2 : Int) :: flatD cs := rfl
    rw [e, show (k + 1) * 2 + 1 = k * 2 + 1 + 1 + 1 by omega, List.set_cons_succ, List.set_cons_succ, ih]
    rfl
theorem OwnD.setc {w : World} {B : Nat} {l : List (Nat × Nat)} {g c : Nat} (h : OwnD w B l (some ⟨g, 0, none⟩) c) (k p : Nat) (hk : k < l.length) : OwnD (w.setCells g (k * 2 + 1) [.int .u64 (p : Int)]) B (l.set k (l[k].1, p)) (some ⟨g, 0, none⟩) c := by
  show (w.setCell ⟨g, k * 2 + 1, none⟩ (.int .u64 (p : Int))).ownsRow B 53 2 _ (l.set k (l[k].1, p)).length _
  rw [List.length_set]
  have s2 := (World.ownsRow.stored h (k * 2 + 1) (.int .u64 (p : Int))).1
  rw [flatD_setc l k p hk] at s2
  exact s2
theorem bsD0 (W : World) : (Instr.buildSlice 28 0 #[]).run Try.prog W = .ok (.slice (some ⟨W.heap.size, 0, none⟩) 0 0) (W.alloc (.cells #[] 53)) := by kernel_rfl
theorem OwnD.empty (W : World) (B : Nat) (hB : B ≤ W.heap.size) : OwnD (W.alloc (.cells #[] 53)) B [] (some ⟨W.heap.size, 0, none⟩) 0 :=
  ⟨rfl, .inr ⟨W.heap.size, 0, #[], rfl, hB, heap_alloc_new _ _, Nat.le_refl _, by decide, rfl, rfl⟩⟩
theorem cnt_fits {a : List (Nat × Nat)} (h : V.Pos a) (x : Nat) : V.cnt a x ≤ 1099511627776 := V.cnt_le h x
theorem cntV_ok {a : List (Nat × Nat)} (h : V.okB a = true) (x : Nat) : V.cntV a x = V.cnt a x := by unfold V.cntV; rw [h]; rfl
/-- lists of the document's, in any later world -/
theorem dValid {a : List (Nat × Nat)} {aa : Option Addr} {ca na : Nat} (ea : na = a.length) {u : World} (ha : Da u a aa ca) {N : Nat} (hN : N = u.heap.size) : ∀ W : World, Below N u W → Calls Try.prog 91 #[.slice aa na ca] W fun e W' => e = .returned (.bool (V.okB a)) ∧ Below N u W' := fun W hW => by
  subst ea hN
  refine (rValid a aa ca W (ha.below hW).at).mono ?_
  rintro e W' ⟨rfl, z, rfl⟩
  exact ⟨rfl, belowDrewN hW z⟩
theorem dCount {a : List (Nat × Nat)} {aa : Option Addr} {ca na : Nat} (ea : na = a.length) (hok : V.okB a = true) {u : World} (ha : Da u a aa ca) {N : Nat} (hN : N = u.heap.size) (x : Nat) : ∀ W : World, Below N u W → Calls Try.prog 92 #[.slice aa na ca, .int .u32 (x : Int)] W fun e W' => e = .returned (.int .u64 (V.cnt a x : Nat)) ∧ ∃ z, W' = W.drewN z := fun W hW => by
  subst ea hN
  refine (rCount a aa ca x W (ha.below hW).at).mono ?_
  rintro e W' ⟨rfl, z, rfl⟩
  exact ⟨by rw [cntV_ok hok], z, rfl⟩
theorem entRC : ∀ args (w : World), (callFunc 92 args).run Try.prog w = .ok (.enter 92 args) w := by
  intro args w
  go_simp
theorem mid_at {S R : List (Nat × Nat)} {d : Nat × Nat} {i : Nat} (h : S.length = i) (h' : i < (S ++ d :: R).length) : (S ++ d :: R)[i] = d := by
  subst h; simp
set_option maxRecDepth 100000 in
set_option maxHeartbeats 2000000 in
theorem rMaxNot (a b : List (Nat × Nat)) (aa ba : Option Addr) (ca cb : Nat) (u : World) (ha : Da u a aa ca) (hb : Da u b ba cb) (hno : (V.okB a && V.okB b) = false) :
    Calls Try.prog 83 #[.slice aa a.length ca, .slice ba b.length cb] u fun e u' => ∃ ao c, e = .returned (.tuple #[.slice ao 0 c, .int .i64 100]) ∧ OwnD u' u.heap.size [] ao c ∧ Below u.heap.size u u' := by
  obtain ⟨N, hN⟩ : ∃ N, N = u.heap.size := ⟨_, rfl⟩
  have HV := hide (dValid rfl ha hN)
  have HW := hide (dValid rfl hb hN)
  have HE : Hid (∀ w : World, OwnD w N [] none 0) := fun w => World.ownsRow_nil _ _ _ _
  have HB0 : Hid (Below N u u) := Below.refl _ _
  rw [← hN]
  clear hN ha hb
  cases h1 : V.okB a with
  | false =>
    rw [h1] at HV
    clear HW
    go_enter Try.func83, Try.ntmps83
    go_wp2_with (first | (go_at_call 91; refine (unhide HV _ (unhide HB0)).mono ?_; rintro e w1 ⟨rfl, hb1⟩) | fail)
    go_ret2
    exact ⟨none, 0, rfl, unhide HE _, hb1⟩
  | true =>
    rw [h1] at hno HV
    have h2 : V.okB b = false := by simpa using hno
    rw [h2] at HW
    go_enter Try.func83, Try.ntmps83
    go_wp2_with (first
      | (go_at_call_of 91 (Value.slice aa a.length ca); refine (unhide HV _ (unhide HB0)).mono ?_; rintro e w1 ⟨rfl, hb1⟩; have HB1 := hide hb1; clear hb1 HV)
      | (go_at_call 91; refine (unhide HW _ (unhide HB1)).mono ?_; rintro e w2 ⟨rfl, hb2⟩)
      | fail)
    go_ret2
    exact ⟨none, 0, rfl, unhide HE _, hb2⟩
set_option maxRecDepth 100000 in
set_option maxHeartbeats 16000000 in
theorem rMaxOk (a b : List (Nat × Nat)) (aa ba : Option Addr) (ca cb : Nat) (u : World) (ha : Da u a aa ca) (hb : Da u b ba cb) (h1 : V.okB a = true) (h2 : V.okB b = true) (r : List (Nat × Nat)) (er : Int) (hr1 : (V.mrg a b).length ≤ 64 → r = V.mrg a b ∧ er = 0) (hr2 : ¬ (V.mrg a b).length ≤ 64 → r = [] ∧ er = 82) :
    Calls Try.prog 83 #[.slice aa a.length ca, .slice ba b.length cb] u fun e u' => ∃ ao c, e = .returned (.tuple #[.slice ao r.length c, .int .i64 er]) ∧ OwnD u' u.heap.size r ao c ∧ Below u.heap.size u u' := by
  have ok1 := V.okB_true.1 h1
  have ok2 := V.okB_true.1 h2
  have hmix : Try.prog.follows .mixedOrders = true := by kernel_rfl
  obtain ⟨N, hN⟩ : ∃ N, N = u.heap.size := ⟨_, rfl⟩
  obtain ⟨na, hna⟩ : ∃ n, n = a.length := ⟨_, rfl⟩
  obtain ⟨nb, hnb⟩ : ∃ n, n = b.length := ⟨_, rfl⟩
  have HV := hide (dValid hna ha hN)
  have HW := hide (dValid hnb hb hN)
  rw [h1] at HV
  rw [h2] at HW
  have HCA0 := hide (fun x => dCount hna h1 ha hN x)
  have HCB0 := hide (fun x => dCount hnb h2 hb hN x)
  have HA := hide ha
  have HB := hide hb
  have HN := hide hN
  have HNA := hide hna
  have HNB := hide hnb
  have hna64 : na ≤ 64 := by rw [hna]; exact ok1.len
  have hnb64 : nb ≤ 64 := by rw [hnb]; exact ok2.len
  have hnai : (na : Int) ≤ 64 := by omega
  have hnbi : (nb : Int) ≤ 64 := by omega
  have HV1 := hide ok1.toVec
  have HV2 := hide ok2.toVec
  have HR1 := hide hr1
  have HR2 := hide hr2
  have HB0 : Hid (Below N u u) := Below.refl _ _
  have HSZ : Hid (∀ W : World, Below N u W → N ≤ W.heap.size) := fun W hW => by rw [hN]; exact hW.size
  have HUP : Hid (∀ W W' : World, Below N u W → Below W.heap.size W W' → Below N u W') := fun W W' h1 h2 => h1.trans (h2.mono (by rw [hN]; exact h1.size))
  have HADW : Hid (∀ W : World, Below N u W → Dv W a aa ca) := fun W hW => (ha.below (by rw [← hN]; exact hW)).toDv
  have HOE : Hid (∀ W : World, Below N u W → OwnD (W.alloc (.cells #[] 53)) N [] (some ⟨W.heap.size, 0, none⟩) 0 ∧ Below N u (W.alloc (.cells #[] 53))) := fun W hW => ⟨OwnD.empty W N (by rw [hN]; exact hW.size), hW.alloc (by rw [hN]; exact hW.size) _⟩
  rw [← hN, ← hna, ← hnb]
  clear hN hna hnb ha hb ok1 ok2 h1 h2 hr1 hr2
  have HL0 : Hid (([] : List (Nat × Nat)).length + a.length ≤ 8796093022208) := by have := unhide HNA; show 0 + a.length ≤ _; omega
  go_enter Try.func83, Try.ntmps83
  go_wp2_with (first
    | (go_at_call_of 91 (Value.slice aa na ca); refine (unhide HV _ (unhide HB0)).mono ?_; rintro e w1 ⟨rfl, hb1⟩; have HB1 := hide hb1; clear hb1 HV)
    | (go_at_call 91; refine (unhide HW _ (unhide HB1)).mono ?_; rintro e w2 ⟨rfl, hb2⟩; have HB2 := hide hb2; clear hb2 HW; have HO2 := hide (unhide HOE _ (unhide HB2)))
    | (at_builtin; refine wpList_putD (by rfl) (.tmp 19) (.tmp 20) (by rfl) (some 21) (by rfl) N [] a 0 na rfl (unhide HNA) (some ⟨w2.heap.size, 0, none⟩) aa 0 ca (by rfl) (by rfl) (unhide HO2).1 (unhide HADW _ (unhide HO2).2) (unhide HL0) (unhide HSZ _ (unhide HO2).2) ?_; intro x3 m3 c3 w3 EN3 HO3 _ HBE3 _; simp only [Act.put, List.setIfInBounds_toArray, List.set_cons_zero, List.set_cons_succ]; have HB3 : Hid (Below N u w3) := (unhide HO2).2.trans (unhide HBE3))
    | fail)
  clear HOE HADW HL0 HB0
  go_loopw [6, 7] (fun s6 s7 wr => ∃ (xo : Option Addr) (m i cc : Nat), s6 = .slice xo m cc ∧ s7 = .int .i64 (i : Int) ∧ i ≤ nb ∧ Hid (m = (a ++ V.fresh a (b.take i)).length) ∧ Hid (OwnD wr N (a ++ V.fresh a (b.take i)) xo cc ∧ Below N u wr)) (fun _ s7 _ => nb - (intOf s7).toNat)
  case atStart =>
    have e0 : a ++ V.fresh a (b.take 0) = [] ++ a := by rw [List.take_zero]; exact (List.append_nil a)
    exact ⟨x3, m3, 0, c3, rfl, rfl, Nat.zero_le _, by rw [e0]; exact unhide EN3, by rw [e0]; exact ⟨unhide HO3, unhide HB3⟩⟩
  case round =>
  clear EN3 HO3 HB3 HBE3 HO2 HB2 HB1
  obtain ⟨xo, m, i, c, rfl, rfl, hib, HMN, HI⟩ := hrel
  by_cases hlt : i < nb
  · have hii : (i : Int) < (nb : Int) := by omega
    have hil : i < b.length := by rw [← unhide HNB]; exact hlt
    obtain ⟨g, o, hao, e1, e2⟩ := ((unhide HB).lies).dt hil
    subst hao
    have HC1 : Hid (∀ W : World, Below N u W → W.cell? ⟨g, o + i * 2, none⟩ = some (.int .u32 (b[i].1 : Int)) ∧ W.cell? ⟨g, o + i * 2 + 1, none⟩ = some (.int .u64 (b[i].2 : Int))) := fun W hW => ⟨cell_keep (unhide HN) hW e1, cell_keep (unhide HN) hW e2⟩
    have hix := ixD g o nb cb i hlt
    have HFT := hide (V.fresh_take a hil)
    have HCA := hide (unhide HCA0 b[i].1)
    have HLE : Hid ((a ++ V.fresh a (b.take i)).length + 1 ≤ 8796093022208) := by
      have h1 := V.fresh_len a (b.take i)
      have h2 : (b.take i).length ≤ i := List.length_take_le _ _
      have h3 := unhide HNA
      show (a ++ V.fresh a (b.take i)).length + 1 ≤ _
      rw [List.length_append]; omega
    have HIX : Hid (m + 0 = m) := Nat.add_zero _
    clear e1 e2
    generalize o + i * 2 = oo at *
    generalize b[i] = d at *
    obtain ⟨x, y⟩ := d
    replace HC1 : Hid (∀ W : World, Below N u W → W.cell? ⟨g, oo, none⟩ = some (.int .u32 (x : Int)) ∧ W.cell? ⟨g, oo + 1, none⟩ = some (.int .u64 (y : Int))) := HC1
    replace HCA : Hid (∀ W : World, Below N u W → Calls Try.prog 92 #[.slice aa na ca, .int .u32 (x : Int)] W fun e W' => e = .returned (.int .u64 (V.cnt a x : Nat)) ∧ ∃ z, W' = W.drewN z) := HCA
    replace HFT : Hid (V.fresh a (b.take (i + 1)) = V.fresh a (b.take i) ++ (if V.cnt a x = 0 then [(x, y)] else [])) := HFT
    obtain ⟨e1, e2⟩ := unhide HC1 _ (unhide HI).2
    by_cases hc0 : V.cnt a x = 0
    · replace HFT : Hid (V.fresh a (b.take (i + 1)) = V.fresh a (b.take i) ++ [(x, y)]) := by rw [unhide HFT, if_pos hc0]; exact rfl
      rw [hc0] at HCA
      generalize V.fresh a (b.take i) = acc at *
      go_wp2_with (first
        | (go_at_call 92; refine (unhide HCA _ (unhide HI).2).mono ?_; rintro e w4 ⟨rfl, z4, hz4⟩; have HB4 : Hid (Below N u w4) := (by rw [hz4]; exact belowDrewN (unhide HI).2 _); have HO4 : Hid (OwnD w4 N (a ++ acc) xo c) := (by rw [hz4]; exact (unhide HI).1); clear hz4; obtain ⟨f1, f2⟩ := unhide HC1 _ (unhide HB4); have HBA : Hid (Below w4.heap.size w4 (w4.alloc (.cells #[.int .u32 (x : Int), .int .u64 (y : Int)] 53))) := (Below.refl _ _).alloc (Nat.le_refl _) _; have HBB := hide (unhide HUP _ _ (unhide HB4) (unhide HBA)))
        | (at_builtin; refine wpList_putD (by rfl) (.tmp 36) (.tmp 41) (by rfl) (some 42) (by rfl) N (a ++ acc) [(x, y)] m 1 (unhide HMN) rfl xo (some ⟨w4.heap.size, 0, none⟩) c 1 (by rfl) (by rfl) (OwnD.below (unhide HO4) (unhide HBA)) (Dv.one w4 (x, y) 53) (unhide HLE) (unhide HSZ _ (unhide HBB)) ?_; intro x5 m5 c5 w5 EN5 HO5 _ HBE5 _; simp only [Act.put, List.setIfInBounds_toArray, List.set_cons_zero, List.set_cons_succ]; have HB5 : Hid (Below N u w5) := (unhide HBB).trans (unhide HBE5))
        | fail)
      go_roundw
      case rel => exact ⟨x5, m5, i + 1, c5, rfl, by go_num, hlt, by rw [unhide HFT, ← List.append_assoc]; exact unhide EN5, by rw [unhide HFT, ← List.append_assoc]; exact ⟨unhide HO5, unhide HB5⟩⟩
      case measure => simp [intOf]; omega
    · replace HFT : Hid (V.fresh a (b.take (i + 1)) = V.fresh a (b.take i)) := by rw [unhide HFT, if_neg hc0]; exact List.append_nil _
      have hci : ¬ ((V.cnt a x : Nat) : Int) = 0 := by omega
      have hcb : (((V.cnt a x : Nat) : Int) == 0) = false := by rw [beq_eq_false_iff_ne]; exact hci
      have hcd : decide (((V.cnt a x : Nat) : Int) = 0) = false := decide_eq_false hci
      generalize V.fresh a (b.take i) = acc at *
      generalize V.cnt a x = v at *
      go_wp2_with (first
        | (go_at_call 92; refine (unhide HCA _ (unhide HI).2).mono ?_; rintro e w4 ⟨rfl, z4, hz4⟩; have HB4 : Hid (Below N u w4) := (by rw [hz4]; exact belowDrewN (unhide HI).2 _); have HO4 : Hid (OwnD w4 N (a ++ acc) xo c) := (by rw [hz4]; exact (unhide HI).1); clear hz4)
        | fail)
      go_roundw
      case rel => exact ⟨xo, m, i + 1, c, rfl, by go_num, hlt, by rw [unhide HFT]; exact unhide HMN, by rw [unhide HFT]; exact ⟨unhide HO4, unhide HB4⟩⟩
      case measure => simp [intOf]; omega
  have hE : nb = i := by omega
  subst hE
  have HTK : Hid (b.take nb = b) := List.take_of_length_le (by rw [← unhide HNB]; exact Nat.le_refl _)
  rw [unhide HTK] at HI HMN
  have HON := hide (V.once_all (unhide HV1) (unhide HV2))
  have HDN := hide (fun S => V.Srt.done (S := S) (unhide HV1) (unhide HV2))
  have HPA : Hid (∀ x, V.cnt a x ≤ 1099511627776) := fun x => cnt_fits (unhide HV1).pos x
  have HPB : Hid (∀ x, V.cnt b x ≤ 1099511627776) := fun x => cnt_fits (unhide HV2).pos x
  have hm128 : m ≤ 128 := by
    have h1 := V.fresh_len a b
    have h2 := unhide HMN
    have h3 := unhide HNA
    have h4 := unhide HNB
    rw [List.length_append] at h2; omega
  have hmi : (m : Int) ≤ 128 := by omega
  have hii : ¬ (nb : Int) < (nb : Int) := by omega
  generalize a ++ V.fresh a b = A at *
  obtain ⟨n, hnm⟩ : ∃ n, n = m := ⟨_, rfl⟩
  subst hnm
  go_wp2
  clear hii HTK hib hlt HA HB
  go_loopw [8] (fun s8 wq => ∃ (i : Nat) (S : List (Nat × Nat)), i ≤ n ∧ s8 = .int .i64 (i : Int) ∧ Hid (V.Srt (fun k => max (V.cnt a k) (V.cnt b k)) (A.take i) S) ∧ Hid (OwnD wq N (S ++ A.drop i) xo c ∧ Below N u wq)) (fun s8 _ => n - (intOf s8).toNat)
  case atStart => exact ⟨0, [], Nat.zero_le _, rfl, V.Srt.nil _, unhide HI⟩
  case round =>
  clear HI
  obtain ⟨i, S, hin, rfl, HS, HI⟩ := hrel
  have HSL : Hid (S.length = i) := by rw [(unhide HS).len, List.length_take, ← unhide HMN]; exact Nat.min_eq_left hin
  by_cases hlt2 : i < n
  · have hi2 : (i : Int) < (n : Int) := by omega
    have hiA : i < A.length := by rw [← unhide HMN]; exact hlt2
    have HDR : Hid (A.drop i = A[i] :: A.drop (i + 1)) := List.drop_eq_getElem_cons hiA
    have HTA : Hid (A.take (i + 1) = A.take i ++ [A[i]]) := List.take_succ_eq_append_getElem hiA
    have HNE := hide ((unhide HS).ne (unhide HON) hiA)
    have HUS := hide (unhide HS).up
    have HSTEP : Hid (∀ k m, m = max (V.cnt a A[i].1) (V.cnt b A[i].1) → k ≤ S.length → (∀ j (hj : j < S.length), j < k → S[j].1 < A[i].1) → (∀ j (hj : j < S.length), k ≤ j → A[i].1 < S[j].1) → V.Srt (fun k => max (V.cnt a k) (V.cnt b k)) (A.take (i + 1)) (V.put S k (A[i].1, m))) := fun k m hm hk g1 g2 => by rw [unhide HTA]; exact (unhide HS).step hm hk g1 g2
    have HLN : Hid ((S ++ A.drop i).length = n) := by rw [List.length_append, List.length_drop, ← unhide HMN, unhide HSL]; show i + (n - i) = n; omega
    rw [unhide HDR] at HI HLN
    clear HS HTA HDR
    obtain ⟨R, hR⟩ : ∃ R, R = A.drop (i + 1) := ⟨_, rfl⟩
    have HRR := hide hR
    rw [← hR] at HI HLN
    clear hR
    have HCAx := hide (unhide HCA0 A[i].1)
    have HCBx := hide (unhide HCB0 A[i].1)
    generalize A[i] = d at *
    obtain ⟨x, y⟩ := d
    obtain ⟨g, hg⟩ := (unhide HI).1.pos (by rw [unhide HLN]; omega)
    subst hg
    have HGN : Hid (N ≤ g) := (unhide HI).1.blk.1
    obtain ⟨ma, hma⟩ : ∃ v, v = V.cnt a x := ⟨_, rfl⟩
    obtain ⟨mb, hmb⟩ : ∃ v, v = V.cnt b x := ⟨_, rfl⟩
    obtain ⟨mm, hmm⟩ : ∃ v, v = max ma mb := ⟨_, rfl⟩
    have HMM := hide hmm
    replace HSTEP : Hid (∀ k, k ≤ S.length → (∀ j (hj : j < S.length), j < k → S[j].1 < x) → (∀ j (hj : j < S.length), k ≤ j → x < S[j].1) → V.Srt (fun k => max (V.cnt a k) (V.cnt b k)) (A.take (i + 1)) (V.put S k (x, mm))) := fun k => unhide HSTEP k mm (by rw [hmm, hma, hmb])
    replace HNE : Hid (∀ j (hj : j < S.length), S[j].1 ≠ x) := HNE
    obtain ⟨ST, hST⟩ : ∃ ST : World → Prop, ST = fun W => OwnD W N (S ++ (x, y) :: R) (some ⟨g, 0, none⟩) c ∧ Below N u W := ⟨_, rfl⟩
    have HCA : Hid (∀ W : World, ST W → Calls Try.prog 92 #[.slice aa na ca, .int .u32 (x : Int)] W fun e W' => e = .returned (.int .u64 (ma : Int)) ∧ ST W') := fun W hW => by
      subst hST
      refine (unhide HCAx W hW.2).mono ?_
      rintro e W' ⟨rfl, z, rfl⟩
      exact ⟨by rw [hma], hW.1, belowDrewN hW.2 z⟩
    have HCB : Hid (∀ W : World, ST W → Calls Try.prog 92 #[.slice ba nb cb, .int .u32 (x : Int)] W fun e W' => e = .returned (.int .u64 (mb : Int)) ∧ ST W') := fun W hW => by
      subst hST
      refine (unhide HCBx W hW.2).mono ?_
      rintro e W' ⟨rfl, z, rfl⟩
      exact ⟨by rw [hmb], hW.1, belowDrewN hW.2 z⟩
    have hmid : ∀ h : i < (S ++ (x, y) :: R).length, (S ++ (x, y) :: R)[i] = (x, y) := fun h => mid_at (unhide HSL) h
    have hiL : i < (S ++ (x, y) :: R).length := by rw [unhide HLN]; exact hlt2
    have HC1 : Hid (∀ W : World, ST W → W.cell? ⟨g, i * 2, none⟩ = some (.int .u32 (x : Int))) := fun W hW => by
      subst hST
      obtain ⟨g', o', he, e1, _⟩ := ((own_lies hW.1).1).dt hiL
      cases he
      rw [hmid, Nat.zero_add] at e1
      exact e1
    have HTH : Hid (∀ W : World, ST W → W.there g (i * 2 + 1) 1) := fun W hW => by
      subst hST
      intro j hj
      obtain rfl : j = 0 := by omega
      exact hW.1.there hiL 1 (by decide)
    have HSET : Hid (∀ W : World, ST W → OwnD (W.setCells g (i * 2 + 1) [.int .u64 (mm : Int)]) N (V.put S i (x, mm) ++ R) (some ⟨g, 0, none⟩) c ∧ Below N u (W.setCells g (i * 2 + 1) [.int .u64 (mm : Int)])) := fun W hW => by
      subst hST
      refine ⟨?_, belowCell (p := ⟨g, i * 2 + 1, none⟩) hW.2 (unhide HGN) _⟩
      have h1 := hW.1.setc i mm hiL
      rw [hmid] at h1
      have h2 : (S ++ (x, y) :: R).set i (x, mm) = V.put S i (x, mm) ++ R := by
        have h3 := V.put_first (S := S) (R := R) (x := (x, y)) (y := (x, mm))
        rw [unhide HSL] at h3
        exact h3
      rw [show (((x, y) : Nat × Nat).1, mm) = (x, mm) from rfl, h2] at h1
      exact h1
    have hS0 : ST wr.drew := by subst hST; exact ⟨(unhide HI).1, belowDrew (unhide HI).2⟩
    have hix : ∀ W : World, (Instr.indexAt 28 (.slice (some ⟨g, 0, none⟩) n c) (.int .i64 (i : Int))).run Try.prog W = .ok (.pointer (some ⟨g, i * 2, none⟩)) W := fun W => by have := ixD g 0 n c i hlt2 W; rwa [Nat.zero_add] at this
    have HNL : Hid (∀ k, k ≤ i → (V.put S k (x, mm) ++ R).length = n) := fun k hk => by
      have h1 := unhide HLN
      have h2 := unhide HSL
      rw [List.length_append, List.length_cons] at h1
      rw [List.length_append, V.put_len (by omega)]; omega
    clear hmid hiL hma hmb hmm hST HI HCAx HCBx HLN
    obtain ⟨oo, hoo⟩ : ∃ q, q = i * 2 := ⟨_, rfl⟩
    rw [← hoo] at HC1 HTH HSET hix
    clear hoo
    go_wp2_with fail
    refine wp_region_last ST 19 hmix hS0 fun hS => ?_
    clear hS0
    generalize wr.drew = X0 at hS ⊢
    refine wpAnyL_take 0 49 (.slice (some ⟨g, 0, none⟩) n c) [] rfl rfl (by kernel_rfl) (by kernel_rfl) (by kernel_rfl) (by kernel_rfl) (by kernel_rfl) (fun _ _ _ h => h) (by rfl) (fun u _ => by go_simp) hS ?_
    simp only [Act.put, List.setIfInBounds_toArray, List.set_cons_zero, List.set_cons_succ]
    refine wpAnyL_take 1 50 (.int .i64 (i : Int)) [] rfl rfl (by kernel_rfl) (by kernel_rfl) (by kernel_rfl) (by kernel_rfl) (by kernel_rfl) (fun _ _ _ h => h) (by rfl) (fun u _ => by go_simp) hS ?_
    simp only [Act.put, List.setIfInBounds_toArray, List.set_cons_zero, List.set_cons_succ]
    refine wpAnyL_take 2 51 (.slice aa na ca) [] rfl rfl (by kernel_rfl) (by kernel_rfl) (by kernel_rfl) (by kernel_rfl) (by kernel_rfl) (fun _ _ _ h => h) (by rfl) (fun u _ => by go_simp) hS ?_
    simp only [Act.put, List.setIfInBounds_toArray, List.set_cons_zero, List.set_cons_succ]
    refine wpAnyL_take 3 52 (.slice (some ⟨g, 0, none⟩) n c) [] rfl rfl (by kernel_rfl) (by kernel_rfl) (by kernel_rfl) (by kernel_rfl) (by kernel_rfl) (fun _ _ _ h => h) (by rfl) (fun u _ => by go_simp) hS ?_
    simp only [Act.put, List.setIfInBounds_toArray, List.set_cons_zero, List.set_cons_succ]
    refine wpAnyL_take 4 53 (.int .i64 (i : Int)) [] rfl rfl (by kernel_rfl) (by kernel_rfl) (by kernel_rfl) (by kernel_rfl) (by kernel_rfl) (fun _ _ _ h => h) (by rfl) (fun u _ => by go_simp) hS ?_
    simp only [Act.put, List.setIfInBounds_toArray, List.set_cons_zero, List.set_cons_succ]
    refine wpAnyL_take 5 54 (.pointer (some ⟨g, oo, none⟩)) [] rfl rfl (by kernel_rfl) (by kernel_rfl) (by kernel_rfl) (by kernel_rfl) (by kernel_rfl) (fun _ _ _ h => h) (by rfl) (fun u _ => by go_simp) hS ?_
    simp only [Act.put, List.setIfInBounds_toArray, List.set_cons_zero, List.set_cons_succ]
    refine wpAnyL_take 6 55 (.pointer (some ⟨g, oo, none⟩)) [] rfl rfl (by kernel_rfl) (by kernel_rfl) (by kernel_rfl) (by kernel_rfl) (by kernel_rfl) (fun _ _ _ h => h) (by rfl) (fun u _ => by go_simp) hS ?_
    simp only [Act.put, List.setIfInBounds_toArray, List.set_cons_zero, List.set_cons_succ]
    refine wpAnyL_take 7 56 (.int .u32 (x : Int)) [] rfl rfl (by kernel_rfl) (by kernel_rfl) (by kernel_rfl) (by kernel_rfl) (by kernel_rfl) (fun _ _ _ h => h) (by rfl) (fun W hW => by have e1 := unhide HC1 W hW; go_simp) hS ?_
    simp only [Act.put, List.setIfInBounds_toArray, List.set_cons_zero, List.set_cons_succ]
    refine wpAnyL_take 9 58 (.slice ba nb cb) [] rfl rfl (by kernel_rfl) (by kernel_rfl) (by kernel_rfl) (by kernel_rfl) (by kernel_rfl) (fun _ _ _ h => h) (by rfl) (fun u _ => by go_simp) hS ?_
    simp only [Act.put, List.setIfInBounds_toArray, List.set_cons_zero, List.set_cons_succ]
    refine wpAnyL_take 10 59 (.slice (some ⟨g, 0, none⟩) n c) [] rfl rfl (by kernel_rfl) (by kernel_rfl) (by kernel_rfl) (by kernel_rfl) (by kernel_rfl) (fun _ _ _ h => h) (by rfl) (fun u _ => by go_simp) hS ?_
    simp only [Act.put, List.setIfInBounds_toArray, List.set_cons_zero, List.set_cons_succ]
    refine wpAnyL_take 11 60 (.int .i64 (i : Int)) [] rfl rfl (by kernel_rfl) (by kernel_rfl) (by kernel_rfl) (by kernel_rfl) (by kernel_rfl) (fun _ _ _ h => h) (by rfl) (fun u _ => by go_simp) hS ?_
    simp only [Act.put, List.setIfInBounds_toArray, List.set_cons_zero, List.set_cons_succ]
    refine wpAnyL_take 12 61 (.pointer (some ⟨g, oo, none⟩)) [] rfl rfl (by kernel_rfl) (by kernel_rfl) (by kernel_rfl) (by kernel_rfl) (by kernel_rfl) (fun _ _ _ h => h) (by rfl) (fun u _ => by go_simp) hS ?_
    simp only [Act.put, List.setIfInBounds_toArray, List.set_cons_zero, List.set_cons_succ]
    refine wpAnyL_take 13 62 (.pointer (some ⟨g, oo, none⟩)) [] rfl rfl (by kernel_rfl) (by kernel_rfl) (by kernel_rfl) (by kernel_rfl) (by kernel_rfl) (fun _ _ _ h => h) (by rfl) (fun u _ => by go_simp) hS ?_
    simp only [Act.put, List.setIfInBounds_toArray, List.set_cons_zero, List.set_cons_succ]
    refine wpAnyL_take 14 63 (.int .u32 (x : Int)) [] rfl rfl (by kernel_rfl) (by kernel_rfl) (by kernel_rfl) (by kernel_rfl) (by kernel_rfl) (fun _ _ _ h => h) (by rfl) (fun W hW => by have e1 := unhide HC1 W hW; go_simp) hS ?_
    simp only [Act.put, List.setIfInBounds_toArray, List.set_cons_zero, List.set_cons_succ]
    refine wpAnyL_one (i := 8) (by kernel_rfl) rfl (by rfl) fun K hK => ?_
    refine wp_call_fn 92 #[.tmp 51, .tmp 56] _ (by rfl) #[.slice aa na ca, .int .u32 (x : Int)] (by with_unfolding_all rfl) entRC (some 57) (by rfl) (fun v w' => v = .int .u64 (ma : Int) ∧ ST w') ((unhide HCA _ hS).mono ?_) ?_
    · rintro e w' ⟨rfl, hs⟩
      exact ⟨_, rfl, rfl, hs⟩
    rintro v X1 ⟨rfl, hS1⟩
    refine hK _ _ (fun _ => hS1) ?_
    clear hK K hS
    simp only [Act.put, List.setIfInBounds_toArray, List.set_cons_zero, List.set_cons_succ]
    refine wpAnyL_one (i := 15) (by kernel_rfl) rfl (by rfl) fun K hK => ?_
    refine wp_call_fn 92 #[.tmp 58, .tmp 63] _ (by rfl) #[.slice ba nb cb, .int .u32 (x : Int)] (by with_unfolding_all rfl) entRC (some 64) (by rfl) (fun v w' => v = .int .u64 (mb : Int) ∧ ST w') ((unhide HCB _ hS1).mono ?_) ?_
    · rintro e w' ⟨rfl, hs⟩
      exact ⟨_, rfl, rfl, hs⟩
    rintro v X2 ⟨rfl, hS2⟩
    refine hK _ _ (fun _ => hS2) ?_
    clear hK K hS1
    simp only [Act.put, List.setIfInBounds_toArray, List.set_cons_zero, List.set_cons_succ]
    refine wpAnyL_one (i := 16) (by kernel_rfl) rfl (by rfl) fun K hK => ?_
    refine wp_val (.int .u64 (mm : Int)) (run_max2 _ _ _ (by rfl) (by rfl) (by rfl) (unhide HMM)) (some 65) (by rfl) ?_
    refine hK _ _ (fun _ => hS2) ?_
    clear hK K
    simp only [Act.put, List.setIfInBounds_toArray, List.set_cons_zero, List.set_cons_succ]
    refine wpAnyL_one (i := 17) (by kernel_rfl) rfl (by rfl) fun K hK => ?_
    refine wp_val (.pointer (some ⟨g, oo, none⟩)) (by go_simp) (some 66) (by rfl) ?_
    refine hK _ _ (fun _ => hS2) ?_
    clear hK K
    simp only [Act.put, List.setIfInBounds_toArray, List.set_cons_zero, List.set_cons_succ]
    refine wpAnyL_one (i := 18) (by kernel_rfl) rfl (by rfl) fun K hK => ?_
    refine wp_val (.pointer (some ⟨g, oo + 1, none⟩)) (by go_simp) (some 67) (by rfl) ?_
    refine hK _ _ (fun _ => hS2) ?_
    clear hK K
    simp only [Act.put, List.setIfInBounds_toArray, List.set_cons_zero, List.set_cons_succ]
    refine wpAnyL_one (i := 19) (by kernel_rfl) rfl (by rfl) fun K hK => ?_
    refine wp_store_int 51 (.tmp 67) (.tmp 65) (by rfl) (by rfl) g (oo + 1) .u64 (mm : Int) (by rfl) (by rfl) (unhide HTH _ hS2) (by kernel_rfl) ?_
    refine hK _ _ (fun h => absurd rfl h) ?_
    clear hK K
    refine wpAnyL_done (by kernel_rfl) ?_ _
    have HP := hide (unhide HSET _ hS2)
    generalize World.setCells X2 _ _ _ = Y at HP ⊢
    clear HSET hS2 HTH HC1 HCA HCB hix HMM ST
    go_wp2_with fail
    go_loopw [9] (fun s9 wv => ∃ k : Nat, k ≤ i ∧ s9 = .int .i64 (k : Int) ∧ Hid (∀ j (hj : j < S.length), k ≤ j → x < S[j].1) ∧ Hid (OwnD wv N (V.put S k (x, mm) ++ R) (some ⟨g, 0, none⟩) c ∧ Below N u wv)) (fun s9 _ => (intOf s9).toNat)
    case atStart => exact ⟨i, Nat.le_refl _, rfl, fun j hj h => absurd hj (by have := unhide HSL; omega), unhide HP⟩
    case round =>
      clear HP
      obtain ⟨k, hki, rfl, HGT, HJ⟩ := hrel
      by_cases hk0 : k = 0
      · subst hk0
        have HF := hide (unhide HSTEP 0 (Nat.zero_le _) (fun j _ h => absurd h (Nat.not_lt_zero _)) (unhide HGT))
        go_wp2_with fail
        go_quiet (fail)
        go_wp2
        go_roundw
        case rel => exact ⟨i + 1, V.put S 0 (x, mm), hlt2, by go_num, unhide HF, by rw [← unhide HRR]; exact ⟨(unhide HJ).1, belowDrewN (unhide HJ).2 _⟩⟩
        case measure => simp [intOf]; omega
      · obtain ⟨q, hq⟩ : ∃ q, k = q + 1 := ⟨k - 1, by omega⟩
        have hkp : (0 : Int) < (k : Int) := by omega
        have hkd : decide ((0 : Int) < (k : Int)) = true := decide_eq_true hkp
        have hkd2 : decide (0 < k) = true := decide_eq_true (by omega)
        have hki2 : (k : Int) ≤ 128 := by omega
        have hsub : (k : Int) - 1 = (q : Int) := by omega
        have hqS : q < S.length := by rw [unhide HSL]; omega
        have hixk : ∀ W : World, (Instr.indexAt 28 (.slice (some ⟨g, 0, none⟩) n c) (.int .i64 (k : Int))).run Try.prog W = .ok (.pointer (some ⟨g, k * 2, none⟩)) W := fun W => by have := ixD g 0 n c k (by omega) W; rwa [Nat.zero_add] at this
        have hixq : ∀ W : World, (Instr.indexAt 28 (.slice (some ⟨g, 0, none⟩) n c) (.int .i64 (q : Int))).run Try.prog W = .ok (.pointer (some ⟨g, q * 2, none⟩)) W := fun W => by have := ixD g 0 n c q (by omega) W; rwa [Nat.zero_add] at this
        have HCK : Hid (∀ W : World, OwnD W N (V.put S k (x, mm) ++ R) (some ⟨g, 0, none⟩) c → (W.cell? ⟨g, q * 2, none⟩ = some (.int .u32 (S[q].1 : Int)) ∧ W.cell? ⟨g, q * 2 + 1, none⟩ = some (.int .u64 (S[q].2 : Int))) ∧ (W.cell? ⟨g, k * 2, none⟩ = some (.int .u32 (x : Int)) ∧ W.cell? ⟨g, k * 2 + 1, none⟩ = some (.int .u64 (mm : Int)))) := fun W hW => by
          have hl := unhide HNL k hki
          obtain ⟨g1, o1, he1, e1, e2⟩ := ((own_lies hW).1).dt (i := q) (by rw [hl]; omega)
          obtain ⟨g2, o2, he2, e3, e4⟩ := ((own_lies hW).1).dt (i := k) (by rw [hl]; omega)
          cases he1
          cases he2
          rw [V.put_at (by omega), Nat.zero_add] at e3 e4
          subst hq
          rw [V.put_ahead hqS, Nat.zero_add] at e1 e2
          exact ⟨⟨e1, e2⟩, e3, e4⟩
        have HTHQ : Hid (∀ W : World, OwnD W N (V.put S k (x, mm) ++ R) (some ⟨g, 0, none⟩) c → W.there g (q * 2) 2) := fun W hW => hW.there (by rw [unhide HNL k hki]; omega)
        have HTHK : Hid (∀ (W : World) (l : List (Nat × Nat)), l.length = n → OwnD W N l (some ⟨g, 0, none⟩) c → W.there g (k * 2) 2) := fun W l hl hW => hW.there (by rw [hl]; omega)
        have HSWP : Hid (((V.put S k (x, mm) ++ R).set q (x, mm)).set k S[q] = V.put S q (x, mm) ++ R) := by subst hq; exact V.put_swap hqS
        have HGT2 : Hid (x < S[q].1 → ∀ j (hj : j < S.length), q ≤ j → x < S[j].1) := fun hx j hj hqj => by
          rcases Nat.lt_or_ge q j with h | h
          · exact unhide HGT j hj (by omega)
          · obtain rfl : j = q := by omega
            exact hx
        have HLT2 : Hid (¬ x < S[q].1 → ∀ j (hj : j < S.length), j < k → S[j].1 < x) := fun hx j hj hjk => by
          have h1 := unhide HNE q hqS
          rcases Nat.lt_or_ge j q with h | h
          · have := List.pairwise_iff_getElem.1 (unhide HUS) j q hj hqS h; omega
          · obtain rfl : j = q := by omega
            omega
        have HKS : Hid (k ≤ S.length) := by rw [unhide HSL]; exact hki
        have HQ := hide hq
        clear hq hk0
        generalize hsq : S[q] = sq at *
        obtain ⟨va, vc⟩ := sq
        replace HCK : Hid (∀ W : World, OwnD W N (V.put S k (x, mm) ++ R) (some ⟨g, 0, none⟩) c → (W.cell? ⟨g, q * 2, none⟩ = some (.int .u32 (va : Int)) ∧ W.cell? ⟨g, q * 2 + 1, none⟩ = some (.int .u64 (vc : Int))) ∧ (W.cell? ⟨g, k * 2, none⟩ = some (.int .u32 (x : Int)) ∧ W.cell? ⟨g, k * 2 + 1, none⟩ = some (.int .u64 (mm : Int)))) := HCK
        replace HGT2 : Hid (x < va → ∀ j (hj : j < S.length), q ≤ j → x < S[j].1) := HGT2
        replace HLT2 : Hid (¬ x < va → ∀ j (hj : j < S.length), j < k → S[j].1 < x) := HLT2
        clear hsq
        obtain ⟨⟨e1, e2⟩, e3, e4⟩ := unhide HCK _ (unhide HJ).1
        by_cases hxv : x < va
        · have hxi : (x : Int) < (va : Int) := by omega
          have hxd : decide ((x : Int) < (va : Int)) = true := decide_eq_true hxi
          have hxd2 : decide (x < va) = true := decide_eq_true hxv
          have HG := hide (unhide HGT2 hxv)
          have HSET : Hid (∀ W : World, OwnD W N (V.put S k (x, mm) ++ R) (some ⟨g, 0, none⟩) c → OwnD (W.setCells g (q * 2) [.int .u32 (x : Int), .int .u64 (mm : Int)]) N ((V.put S k (x, mm) ++ R).set q (x, mm)) (some ⟨g, 0, none⟩) c) := fun W hW => hW.set q x mm
          have HSET2 : Hid (∀ W : World, OwnD W N ((V.put S k (x, mm) ++ R).set q (x, mm)) (some ⟨g, 0, none⟩) c → OwnD (W.setCells g (k * 2) [.int .u32 (va : Int), .int .u64 (vc : Int)]) N (V.put S q (x, mm) ++ R) (some ⟨g, 0, none⟩) c) := fun W hW => by
            have h := hW.set k va vc
            rw [unhide HSWP] at h
            exact h
          have HLS : Hid (((V.put S k (x, mm) ++ R).set q (x, mm)).length = n) := by rw [List.length_set]; exact unhide HNL k hki
          generalize (V.put S k (x, mm) ++ R).set q (x, mm) = L2 at *
          generalize V.put S k (x, mm) ++ R = L1 at *
          clear HGT2 HLT2 HSWP hxd2
          go_wp2_with fail
          go_quiet (fail)
          generalize hX3 : World.drewN wr _ = X3
          have HX3 : Hid (OwnD X3 N L1 (some ⟨g, 0, none⟩) c ∧ Below N u X3) := by rw [← hX3]; exact ⟨(unhide HJ).1, belowDrewN (unhide HJ).2 _⟩
          clear hX3 e1 e2 e3 e4 HJ
          obtain ⟨⟨e1, e2⟩, e3, e4⟩ := unhide HCK _ (unhide HX3).1
          obtain ⟨M, hM⟩ : ∃ M, M = X3.heap.size := ⟨_, rfl⟩
          have HMX := hide hM
          have HGM : Hid (M ≠ g) := by rw [hM]; exact Nat.ne_of_gt (unhide HX3).1.blk.2
          have HUPM : Hid (∀ W : World, Below M X3 W → OwnD W N L1 (some ⟨g, 0, none⟩) c ∧ Below N u W) := fun W hW => ⟨(unhide HX3).1.below (by rw [← hM]; exact hW), unhide HUP _ _ (unhide HX3).2 (by rw [← hM]; exact hW)⟩
          clear hM
          go_wp2_with (first
            | ((with_reducible refine wpList_alloc_dot (by rfl) (by rfl) (some 10) (by rfl) M (unhide HMX) ?_); intro W1 HX1 HB1 HS1; simp only [Act.put, List.setIfInBounds_toArray, List.set_cons_zero, List.set_cons_succ])
            | ((with_reducible refine wpList_store_dot (by rfl) (.tmp 10) (.tmp 91) (by rfl) M (va : Int) (vc : Int) (by with_unfolding_all rfl) (by with_unfolding_all rfl) (unhide HX1) ?_); intro W2 HX2 HE2; simp only [Act.put]; have HY2 : Hid (OwnD W2 N L1 (some ⟨g, 0, none⟩) c ∧ Below N u W2) := unhide HUPM _ (by rw [unhide HE2]; exact belowRow (unhide HB1) (Nat.le_refl _) _); obtain ⟨⟨f1, f2⟩, f3, f4⟩ := unhide HCK _ (unhide HY2).1; have HTH := hide (unhide HTHQ _ (unhide HY2).1); clear HE2 HX1 HB1 HS1)
            | (refine wpList_store_mid (by rfl) 53 (.tmp 99) (.tmp 98) (by rfl) g (q * 2) #[.int .u32 (x : Int), .int .u64 (mm : Int)] (by with_unfolding_all rfl) (by with_unfolding_all rfl) (unhide HTH) dotInfo (dot_one _ _) ?_; simp only [Act.put]; generalize hW3 : World.setCells W2 _ _ _ = W3; have HY3 : Hid (OwnD W3 N L2 (some ⟨g, 0, none⟩) c ∧ Below N u W3) := (by rw [← hW3]; exact ⟨unhide HSET _ (unhide HY2).1, belowCells (unhide HY2).2 (unhide HGN) _ _⟩); have HX3' : Hid (W3.heap[M]? = some (.cells #[.int .u32 (va : Int), .int .u64 (vc : Int)] 53 (0, 0))) := (by rw [← hW3]; exact (cells_other _ _ _ (unhide HGM)).trans (unhide HX2)); obtain ⟨y0, y1⟩ := box2 (unhide HX3'); have HTH2 := hide (unhide HTHK _ L2 (unhide HLS) (unhide HY3).1); clear hW3 HX2 HY2)
            | (refine wpList_store_mid (by rfl) 53 (.tmp 103) (.tmp 102) (by rfl) g (k * 2) #[.int .u32 (va : Int), .int .u64 (vc : Int)] (by with_unfolding_all rfl) (by with_unfolding_all rfl) (unhide HTH2) dotInfo (dot_one _ _) ?_; simp only [Act.put]; generalize hW4 : World.setCells W3 _ _ _ = W4; have HY4 : Hid (OwnD W4 N (V.put S q (x, mm) ++ R) (some ⟨g, 0, none⟩) c ∧ Below N u W4) := (by rw [← hW4]; exact ⟨unhide HSET2 _ (unhide HY3).1, belowCells (unhide HY3).2 (unhide HGN) _ _⟩); clear hW4)
            | fail)
          go_roundw
          case rel => exact ⟨q, by have := unhide HQ; omega, by simp, unhide HG, unhide HY4⟩
          case measure => have := unhide HQ; simp [intOf]; omega
        · have hxi : ¬ (x : Int) < (va : Int) := by omega
          have hxd : decide ((x : Int) < (va : Int)) = false := decide_eq_false hxi
          have hxd2 : decide (x < va) = false := decide_eq_false hxv
          have HF := hide (unhide HSTEP k (unhide HKS) (unhide HLT2 hxv) (unhide HGT))
          clear HGT2 HLT2 HSWP HTHK HTHQ
          go_wp2_with fail
          go_quiet (fail)
          go_wp2
          go_roundw
          case rel => exact ⟨i + 1, V.put S k (x, mm), hlt2, by go_num, unhide HF, by rw [← unhide HRR]; exact ⟨(unhide HJ).1, belowDrewN (unhide HJ).2 _⟩⟩
          case measure => simp [intOf]; omega
  · have hE2 : n = i := by omega
    subst hE2
    have hni : ¬ (n : Int) < (n : Int) := by omega
    have HEQ : Hid (S = V.mrg a b) := unhide HDN S (by have h := unhide HS; rwa [List.take_of_length_le (by rw [← unhide HMN]; exact Nat.le_refl _)] at h)
    have HDE : Hid (S ++ A.drop n = V.mrg a b) := by rw [List.drop_of_length_le (by rw [← unhide HMN]; exact Nat.le_refl _), List.append_nil]; exact unhide HEQ
    rw [unhide HDE] at HI
    have hlen : (V.mrg a b).length = n := by rw [← unhide HEQ]; exact unhide HSL
    by_cases h64 : n ≤ 64
    · have h64i : ¬ (64 : Int) < (n : Int) := by omega
      obtain ⟨rfl, rfl⟩ := unhide HR1 (by rw [hlen]; exact h64)
      have HLN := hide hlen
      clear hlen
      go_wp2
      go_ret2
      exact ⟨xo, c, by rw [unhide HLN]; rfl, (unhide HI).1, (unhide HI).2⟩
    · have h64i : (64 : Int) < (n : Int) := by omega
      obtain ⟨rfl, rfl⟩ := unhide HR2 (by rw [hlen]; exact h64)
      clear hlen
      go_wp2
      go_ret2
      exact ⟨none, 0, rfl, World.ownsRow_nil _ _ _ _, (unhide HI).2⟩
theorem rMax (a b : List (Nat × Nat)) (aa ba : Option Addr) (ca cb : Nat) (u : World) (ha : Da u a aa ca) (hb : Da u b ba cb) :
    Calls Try.prog 83 #[.slice aa a.length ca, .slice ba b.length cb] u fun e u' => ∃ ao c, e = .returned (.tuple #[.slice ao (maxV a b).1.length c, .int .i64 (maxV a b).2]) ∧ OwnD u' u.heap.size (maxV a b).1 ao c ∧ Below u.heap.size u u' := by
  cases hok : V.okB a && V.okB b with
  | false =>
    rw [show maxV a b = ([], 100) by unfold maxV; rw [hok]; rfl]
    exact rMaxNot a b aa ba ca cb u ha hb hok
  | true =>
    have h12 : V.okB a = true ∧ V.okB b = true := by simpa using hok
    refine rMaxOk a b aa ba ca cb u ha hb h12.1 h12.2 _ _ (fun h => ?_) (fun h => ?_)
    · unfold maxV; rw [hok]; simp [h]
    · unfold maxV; rw [hok]; simp [h]
end Go.Proofs.Ytkcbljmjhlnjpaa
namespace Go.Proofs.Ytkcbljmjhlnjpaa
open Go.RowKit Go.Lib
open Classical in
theorem sbelB_iff {a b : St} : sbelB a b = true ↔ SOk a ∧ SOk b ∧ sbel a b := by unfold sbelB; rw [decide_eq_true_iff]
open Classical in
theorem sameB_iff {a b : St} : sameB a b = true ↔ a = b := by unfold sameB; rw [decide_eq_true_iff]
/-- Below by Join -/
theorem sbel_join (a b : St) : ((joinV a b).2 = 0 ∧ (joinV a b).1 = b) ↔ sbelB a b = true := by
  rw [sbelB_iff]
  constructor
  · rintro ⟨h1, h2⟩
    by_cases hab : SOk a ∧ SOk b
    · by_cases hl : (V.mrg a.seen b.seen).length ≤ 64 ∧ (jnS a b).sibs.length ≤ 64
      · rw [join_ok hab.1 hab.2 hl.1 hl.2] at h2
        exact ⟨hab.1, hab.2, (jnS_eq_iff hab.1.toSV hab.2.toSV).1 h2⟩
      · rw [join_big hab.1 hab.2 hl] at h1; cases h1
    · rw [join_not hab] at h1; cases h1
  · rintro ⟨ha, hb, h⟩
    have e := (jnS_eq_iff ha.toSV hb.toSV).2 h
    rw [join_ok ha hb (by have := hb.slen; rw [← e] at this; exact this) (by rw [e]; exact hb.len)]
    exact ⟨rfl, e⟩
/-- the greatest count of an actor that either tells -/
noncomputable def topc (seen ctx : List (Nat × Nat)) (x : Nat) : Nat := max (V.cnt seen x) (V.cnt ctx x)
set_option maxRecDepth 100000 in
set_option maxHeartbeats 2000000 in
theorem dNext (a b : List (Nat × Nat)) (xa xb : Option Addr) (ca cb na nb x : Nat) (ea : na = a.length) (eb : nb = b.length) (u : World) (ha : Da u a xa ca) (hb : Da u b xb cb) (oa : V.Ok a) (ob : V.Ok b) (d : Nat × Nat) (r : Int) (h1 : topc a b x = 1099511627776 → d = (0, 0) ∧ r = 101) (h2 : topc a b x ≠ 1099511627776 → d = (x, topc a b x + 1) ∧ r = 0) :
    Calls Try.prog 96 #[.slice xa na ca, .slice xb nb cb, .int .u32 (x : Int)] u fun e u' => e = .returned (.tuple #[.agg #[.int .u32 (d.1 : Int), .int .u64 (d.2 : Int)], .int .i64 r]) ∧ Below u.heap.size u u' := by
  obtain ⟨N, hN⟩ : ∃ N, N = u.heap.size := ⟨_, rfl⟩
  have HN := hide hN
  have HA := hide ha
  have HB := hide hb
  have HC1 : Hid (∀ W : World, Below u.heap.size u W → Calls Try.prog 133 #[.slice xa na ca, .int .u32 (x : Int)] W fun e W' => e = .returned (.int .u64 (V.cnt a x : Nat)) ∧ Below W.heap.size W W') := fun W hW => kCount x _ (cnt_ok oa x) ea (ha.below hW) W (Below.refl _ _)
  have HC2 : Hid (∀ W : World, Below u.heap.size u W → Calls Try.prog 133 #[.slice xb nb cb, .int .u32 (x : Int)] W fun e W' => e = .returned (.int .u64 (V.cnt b x : Nat)) ∧ Below W.heap.size W W') := fun W hW => kCount x _ (cnt_ok ob x) eb (hb.below hW) W (Below.refl _ _)
  have hle : topc a b x ≤ 1099511627776 := by have := V.cnt_le oa.pos x; have := V.cnt_le ob.pos x; unfold topc; omega
  have hc1 := V.cnt_le oa.pos x
  have hc2 := V.cnt_le ob.pos x
  have hT : topc a b x = max (V.cnt a x) (V.cnt b x) := rfl
  rw [← hN] at HC1 HC2 ⊢
  clear hN ha hb oa ob ea eb
  generalize V.cnt a x = p at *
  generalize V.cnt b x = q at *
  have hmxr : ∀ (ts : Array TypeId) (t : TypeId) (W : World), (Builtin.max_ ts t #[.int .u64 (p : Int), .int .u64 (q : Int)]).run Try.prog W = .ok (.int .u64 (topc a b x : Nat)) W := fun ts t W => by rw [run_max_int2, hT]; congr 2; split <;> omega
  generalize topc a b x = t at *
  have HLE := hide hle
  clear hT hle hc1 hc2
  by_cases ht : t = 1099511627776
  · obtain ⟨rfl, rfl⟩ := h1 ht
    have hti : (t : Int) = 1099511627776 := by omega
    clear h1 h2 ht
    go_enter Try.func96, Try.ntmps96
    go_wp2_with (first
      | ((with_reducible refine wpList_alloc_dot (by rfl) (by rfl) (some 6) (by rfl) N (unhide HN) ?_); intro W1 HX1 HB1 HS1; simp only [Act.put, List.setIfInBounds_toArray, List.set_cons_zero, List.set_cons_succ])
      | (go_at_call 133; refine (unhide HC1 W1 (unhide HB1)).mono ?_; rintro e W2 ⟨rfl, hb2⟩; have HB2 := hide hb2; clear hb2 HC1)
      | (go_at_call 133; refine (unhide HC2 W2 ((unhide HB1).trans ((unhide HB2).mono (by rw [unhide HS1]; omega)))).mono ?_; rintro e W3 ⟨rfl, hb3⟩; have HB3 : Hid (Below W1.heap.size W1 W3) := (unhide HB2).trans (hb3.mono (unhide HB2).size); clear hb3)
      | ((with_reducible refine wpList_store_dot (by rfl) (.tmp 6) (.tmp 18) (by rfl) N 0 0 (by with_unfolding_all rfl) (by with_unfolding_all rfl) (box_below (unhide HX1) (unhide HB3)) ?_); intro W4 HX4 HE4; simp only [Act.put])
      | fail)
    refine bodyPost_ret (results_cell_tmp rfl _ _ N 53 #[.int .u32 0, .int .u64 0] (0, 0) _ rfl (unhide HX4) dotUnd rfl dotInfo) rfl ?_
    exact ⟨rfl, by rw [unhide HE4]; exact belowRow ((unhide HB1).trans ((unhide HB3).mono (by rw [unhide HS1]; omega))) (Nat.le_refl _) _⟩
  · obtain ⟨rfl, rfl⟩ := h2 ht
    have hti : ((t : Int) == 1099511627776) = false := by simp; omega
    have htj : ¬ (t : Int) = 1099511627776 := by omega
    have hw : IntKind.u64.wrap ((t : Int) + 1) = ((t + 1 : Nat) : Int) := by have := unhide HLE; rw [IntKind.wrap_u64]; omega
    generalize t + 1 = t1 at *
    clear h1 h2 ht
    go_enter Try.func96, Try.ntmps96
    go_wp2_with (first
      | ((with_reducible refine wpList_alloc_dot (by rfl) (by rfl) (some 6) (by rfl) N (unhide HN) ?_); intro W1 HX1 HB1 HS1; simp only [Act.put, List.setIfInBounds_toArray, List.set_cons_zero, List.set_cons_succ])
      | (go_at_call 133; refine (unhide HC1 W1 (unhide HB1)).mono ?_; rintro e W2 ⟨rfl, hb2⟩; have HB2 := hide hb2; clear hb2 HC1)
      | (go_at_call 133; refine (unhide HC2 W2 ((unhide HB1).trans ((unhide HB2).mono (by rw [unhide HS1]; omega)))).mono ?_; rintro e W3 ⟨rfl, hb3⟩; have HB3 : Hid (Below W1.heap.size W1 W3) := (unhide HB2).trans (hb3.mono (unhide HB2).size); clear hb3)
      | ((with_reducible refine wpList_store_dot (by rfl) (.tmp 6) (.tmp 22) (by rfl) N (x : Int) (t1 : Int) (by with_unfolding_all rfl) (by with_unfolding_all rfl) (box_below (unhide HX1) (unhide HB3)) ?_); intro W4 HX4 HE4; simp only [Act.put])
      | fail)
    refine bodyPost_ret (results_cell_tmp rfl _ _ N 53 #[.int .u32 (x : Int), .int .u64 (t1 : Int)] (0, 0) _ rfl (unhide HX4) dotUnd rfl dotInfo) rfl ?_
    exact ⟨rfl, by rw [unhide HE4]; exact belowRow ((unhide HB1).trans ((unhide HB3).mono (by rw [unhide HS1]; omega))) (Nat.le_refl _) _⟩
open Classical in
/-- what is wrong with a put -/
noncomputable def wrongE (s : St) (ctx : List (Nat × Nat)) (g : Bool) (v : ByteArray) : Int := if ¬ SOk s then 110 else if ¬ V.Ok ctx then 100 else if mayB g v = false then 131 else 0
set_option maxRecDepth 100000 in
set_option maxHeartbeats 2000000 in
theorem dWrong (s : St) (v : Sv) (ctx : List (Nat × Nat)) (xc : Option Addr) (cc nc : Nat) (ec : nc = ctx.length) (g : Bool) (t : ByteArray) (ht : t.size ≤ 140737488355328) (u : World) (hs : SAt u s v) (hc : Da u ctx xc cc) :
    Calls Try.prog 95 #[v.v s.seen.length s.sibs.length, .slice xc nc cc, .agg #[.bool g, .string t]] u fun e u' => e = .returned (.int .i64 (wrongE s ctx g t)) ∧ Below u.heap.size u u' := by
  obtain ⟨N, hN⟩ : ∃ N, N = u.heap.size := ⟨_, rfl⟩
  have HN := hide hN
  have HA := hide hs
  have HB := hide hc
  rw [← hN]
  obtain ⟨n1, hn1⟩ : ∃ n, n = s.seen.length := ⟨_, rfl⟩
  obtain ⟨m1, hm1⟩ : ∃ n, n = s.sibs.length := ⟨_, rfl⟩
  have HV1 : Hid (∀ W : World, SAt W s v → Calls Try.prog 81 #[v.v n1 m1] W fun e W' => e = .returned (.bool (sokB s)) ∧ Below W.heap.size W W') := fun W h => by rw [hn1, hm1]; exact dValid' s v W h
  have HV2 : Hid (∀ W : World, Da W ctx xc cc → Calls Try.prog 122 #[.slice xc nc cc] W fun e W' => e = .returned (.bool (V.okB ctx)) ∧ Below W.heap.size W W') := fun W h => kValid _ rfl ec h W (Below.refl _ _)
  have HV3 : Hid (∀ W : World, Calls Try.prog 126 #[.agg #[.bool g, .string t]] W fun e W' => e = .returned (.bool (mayB g t)) ∧ Below W.heap.size W W') := fun W => dMayBe g t W ht
  rw [← hn1, ← hm1]
  clear hN hs hc hn1 hm1 ec
  have HU : Hid (∀ W : World, Below N u W → Below u.heap.size u W) := fun W hW => by rw [← unhide HN]; exact hW
  by_cases os : SOk s
  · rw [sokB_true.2 os] at HV1
    by_cases oc : V.Ok ctx
    · rw [V.okB_true.2 oc] at HV2
      cases hm : mayB g t
      · rw [show wrongE s ctx g t = 131 by unfold wrongE; rw [if_neg (fun h => h os), if_neg (fun h => h oc), if_pos hm]]
        rw [hm] at HV3
        clear os oc hm
        go_enter Try.func95, Try.ntmps95
        go_wp2_with (first
          | ((with_reducible refine wpList_box_state (by rfl) (.tmp 0) (by rfl) (some 3) (by rfl) N (unhide HN) v n1 m1 (by with_unfolding_all rfl) ?_); intro W1 HX1 HB1 HS1; simp only [Act.put, List.setIfInBounds_toArray, List.set_cons_zero, List.set_cons_succ])
          | ((with_reducible refine wpList_box_ct (by rfl) (.tmp 2) (by rfl) (some 5) (by rfl) (N + 1) (unhide HS1).symm g t (by with_unfolding_all rfl) ?_); intro W2 HX2 HB2 HS2; simp only [Act.put, List.setIfInBounds_toArray, List.set_cons_zero, List.set_cons_succ]; have HY1 : Hid (W2.heap[N]? = some (stRow v n1 m1)) := ((unhide HB2).block N (Nat.lt_succ_self _)).trans (unhide HX1); have HBU : Hid (Below N u W2) := (unhide HB1).trans ((unhide HB2).mono (Nat.le_succ _)); have HA2 := hide ((unhide HA).below (unhide HU _ (unhide HBU))); have HB3 := hide ((unhide HB).below (unhide HU _ (unhide HBU))); obtain ⟨x0, x1⟩ := st_cells (unhide HY1))
          | (go_at_call 81; refine (unhide HV1 W2 (unhide HA2)).mono ?_; rintro e W3 ⟨rfl, hb3⟩; have HW3 := hide hb3; clear hb3)
          | (go_at_call 122; refine (unhide HV2 W3 ((unhide HB3).below (unhide HW3))).mono ?_; rintro e W4 ⟨rfl, hb4⟩; have HW4 : Hid (Below W2.heap.size W2 W4) := (unhide HW3).trans (hb4.mono (unhide HW3).size); clear hb4; obtain ⟨y0, y1⟩ := box2 (box_below (unhide HX2) (unhide HW4)))
          | (go_at_call 126; refine (unhide HV3 W4).mono ?_; rintro e W5 ⟨rfl, hb5⟩; have HW5 : Hid (Below W2.heap.size W2 W5) := (unhide HW4).trans (hb5.mono (unhide HW4).size); clear hb5)
          | fail)
        go_ret
        exact ⟨rfl, (unhide HBU).trans ((unhide HW5).mono (by rw [unhide HS2]; omega))⟩
      · rw [show wrongE s ctx g t = 0 by unfold wrongE; rw [if_neg (fun h => h os), if_neg (fun h => h oc), if_neg (by rw [hm]; decide)]]
        rw [hm] at HV3
        clear os oc hm
        go_enter Try.func95, Try.ntmps95
        go_wp2_with (first
          | ((with_reducible refine wpList_box_state (by rfl) (.tmp 0) (by rfl) (some 3) (by rfl) N (unhide HN) v n1 m1 (by with_unfolding_all rfl) ?_); intro W1 HX1 HB1 HS1; simp only [Act.put, List.setIfInBounds_toArray, List.set_cons_zero, List.set_cons_succ])
          | ((with_reducible refine wpList_box_ct (by rfl) (.tmp 2) (by rfl) (some 5) (by rfl) (N + 1) (unhide HS1).symm g t (by with_unfolding_all rfl) ?_); intro W2 HX2 HB2 HS2; simp only [Act.put, List.setIfInBounds_toArray, List.set_cons_zero, List.set_cons_succ]; have HY1 : Hid (W2.heap[N]? = some (stRow v n1 m1)) := ((unhide HB2).block N (Nat.lt_succ_self _)).trans (unhide HX1); have HBU : Hid (Below N u W2) := (unhide HB1).trans ((unhide HB2).mono (Nat.le_succ _)); have HA2 := hide ((unhide HA).below (unhide HU _ (unhide HBU))); have HB3 := hide ((unhide HB).below (unhide HU _ (unhide HBU))); obtain ⟨x0, x1⟩ := st_cells (unhide HY1))
          | (go_at_call 81; refine (unhide HV1 W2 (unhide HA2)).mono ?_; rintro e W3 ⟨rfl, hb3⟩; have HW3 := hide hb3; clear hb3)
          | (go_at_call 122; refine (unhide HV2 W3 ((unhide HB3).below (unhide HW3))).mono ?_; rintro e W4 ⟨rfl, hb4⟩; have HW4 : Hid (Below W2.heap.size W2 W4) := (unhide HW3).trans (hb4.mono (unhide HW3).size); clear hb4; obtain ⟨y0, y1⟩ := box2 (box_below (unhide HX2) (unhide HW4)))
          | (go_at_call 126; refine (unhide HV3 W4).mono ?_; rintro e W5 ⟨rfl, hb5⟩; have HW5 : Hid (Below W2.heap.size W2 W5) := (unhide HW4).trans (hb5.mono (unhide HW4).size); clear hb5)
          | fail)
        go_ret
        exact ⟨rfl, (unhide HBU).trans ((unhide HW5).mono (by rw [unhide HS2]; omega))⟩
    · rw [V.okB_false.2 oc] at HV2
      rw [show wrongE s ctx g t = 100 by unfold wrongE; rw [if_neg (fun h => h os), if_pos oc]]
      clear os oc HV3
      go_enter Try.func95, Try.ntmps95
      go_wp2_with (first
        | ((with_reducible refine wpList_box_state (by rfl) (.tmp 0) (by rfl) (some 3) (by rfl) N (unhide HN) v n1 m1 (by with_unfolding_all rfl) ?_); intro W1 HX1 HB1 HS1; simp only [Act.put, List.setIfInBounds_toArray, List.set_cons_zero, List.set_cons_succ])
        | ((with_reducible refine wpList_box_ct (by rfl) (.tmp 2) (by rfl) (some 5) (by rfl) (N + 1) (unhide HS1).symm g t (by with_unfolding_all rfl) ?_); intro W2 HX2 HB2 HS2; simp only [Act.put, List.setIfInBounds_toArray, List.set_cons_zero, List.set_cons_succ]; have HY1 : Hid (W2.heap[N]? = some (stRow v n1 m1)) := ((unhide HB2).block N (Nat.lt_succ_self _)).trans (unhide HX1); have HBU : Hid (Below N u W2) := (unhide HB1).trans ((unhide HB2).mono (Nat.le_succ _)); have HA2 := hide ((unhide HA).below (unhide HU _ (unhide HBU))); have HB3 := hide ((unhide HB).below (unhide HU _ (unhide HBU))); obtain ⟨x0, x1⟩ := st_cells (unhide HY1))
        | (go_at_call 81; refine (unhide HV1 W2 (unhide HA2)).mono ?_; rintro e W3 ⟨rfl, hb3⟩; have HW3 := hide hb3; clear hb3)
        | (go_at_call 122; refine (unhide HV2 W3 ((unhide HB3).below (unhide HW3))).mono ?_; rintro e W4 ⟨rfl, hb4⟩; have HW4 : Hid (Below W2.heap.size W2 W4) := (unhide HW3).trans (hb4.mono (unhide HW3).size); clear hb4; obtain ⟨y0, y1⟩ := box2 (box_below (unhide HX2) (unhide HW4)))
        | fail)
      go_ret
      exact ⟨rfl, (unhide HBU).trans ((unhide HW4).mono (by rw [unhide HS2]; omega))⟩
  · rw [sokB_false.2 os] at HV1
    rw [show wrongE s ctx g t = 110 by unfold wrongE; rw [if_pos os]]
    clear os HV2 HV3
    go_enter Try.func95, Try.ntmps95
    go_wp2_with (first
      | ((with_reducible refine wpList_box_state (by rfl) (.tmp 0) (by rfl) (some 3) (by rfl) N (unhide HN) v n1 m1 (by with_unfolding_all rfl) ?_); intro W1 HX1 HB1 HS1; simp only [Act.put, List.setIfInBounds_toArray, List.set_cons_zero, List.set_cons_succ])
      | ((with_reducible refine wpList_box_ct (by rfl) (.tmp 2) (by rfl) (some 5) (by rfl) (N + 1) (unhide HS1).symm g t (by with_unfolding_all rfl) ?_); intro W2 HX2 HB2 HS2; simp only [Act.put, List.setIfInBounds_toArray, List.set_cons_zero, List.set_cons_succ]; have HY1 : Hid (W2.heap[N]? = some (stRow v n1 m1)) := ((unhide HB2).block N (Nat.lt_succ_self _)).trans (unhide HX1); have HBU : Hid (Below N u W2) := (unhide HB1).trans ((unhide HB2).mono (Nat.le_succ _)); have HA2 := hide ((unhide HA).below (unhide HU _ (unhide HBU))); have HB3 := hide ((unhide HB).below (unhide HU _ (unhide HBU))); obtain ⟨x0, x1⟩ := st_cells (unhide HY1))
      | (go_at_call 81; refine (unhide HV1 W2 (unhide HA2)).mono ?_; rintro e W3 ⟨rfl, hb3⟩; have HW3 := hide hb3; clear hb3)
      | fail)
    go_ret
    exact ⟨rfl, (unhide HBU).trans ((unhide HW3).mono (by rw [unhide HS2]; omega))⟩
end Go.Proofs.Ytkcbljmjhlnjpaa
