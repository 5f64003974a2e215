/- Segments: Merge of two lists of entries. Written by mksgn.py. -/
import Derived.Test.YtbahlfpcbplofaaSgm
namespace Go.Proofs.Ytbahlfpcbplofaa.S
open Go.RowKit Go.Lib
theorem wpList_callv0 {P : Program} {ops : Array Oper} {rest : List Oper} {o : Oper} {a : Act} {w : World} {Q : Exit → Act → World → Prop} (hgd : o.guard = none) (f : Operand) (args : Array Operand) (ats : Array TypeId) (ho : o.op = .call { callee := .value f, args := args, argTypes := ats })
    (F : FuncId) (hf : a.eval f = .func (.func F) #[] #[]) (xs : Array Value) (hx : args.map a.eval = xs) (hent : ∀ args (w : World), (callFunc F args).run P w = .ok (.enter F args) w) (d : Option Tmp) (hd : o.dst = d) (R : Value → World → Prop)
    (hc : Calls P F xs w fun e w' => ∃ v, e = .returned v ∧ R v w') (h : ∀ v w', R v w' → wpList P ops Q rest (a.put d v) w') : wpList P ops Q (o :: rest) a w :=
  wpList_callv hgd f args ats ho F #[] hf xs hx hent d hd R (by simpa using hc) h
theorem El.tail {w : World} {l : List En} {ao : Option Addr} {n c : Nat} (h : El w l ao n c) (i : Nat) (hi : i ≤ n) : El w (l.drop i) (tlA ao c i 2) (n - i) (c - i) := ⟨(RE.tail h.toAt i (by rw [← h.hn]; exact hi)).1, by rw [List.length_drop, ← h.hn]⟩
theorem El.tailRun {w : World} {l : List En} {ao : Option Addr} {n c : Nat} (h : El w l ao n c) (i : Nat) (hi : i ≤ n) (W : World) : (Instr.slice 27 (.slice ao n c) (some (.int .i64 (i : Int))) none none).run Try.prog W = .ok (.slice (tlA ao c i 2) (n - i) (c - i)) W := by
  have h2 := (RE.tail h.toAt i (by rw [← h.hn]; exact hi)).2 W
  rw [← h.hn] at h2
  exact h2
set_option maxRecDepth 100000 in
set_option maxHeartbeats 16000000 in
theorem mrgE (a : List En) (b : List En) (ao bo : Option Addr) (n m c d : Nat) (S : World → Prop) (hS1 : ∀ W, S W → El W a ao n c ∧ El W b bo m d) (hS2 : ∀ W W', S W → Below W.heap.size W W' → S W') (F G E : FuncId) (caps : Array Value) (f : En → ByteArray) (g : En → ByteArray)
    (hF : (∀ args (w : World), (callFunc F args).run Try.prog w = .ok (.enter F args) w) ∧ ∀ (x : En) (W : World), Calls Try.prog F #[.agg #[.string x.1, .string x.2]] W fun e W' => e = .returned (.string (f x)) ∧ Below W.heap.size W W')
    (hG : (∀ args (w : World), (callFunc G args).run Try.prog w = .ok (.enter G args) w) ∧ ∀ (x : En) (W : World), Calls Try.prog G #[.agg #[.string x.1, .string x.2]] W fun e W' => e = .returned (.string (g x)) ∧ Below W.heap.size W W')
    (hE : ∀ args (w : World), (callFunc E args).run Try.prog w = .ok (.enter E args) w)
    (I : List (Tell En En) → World → Prop)
    (h1 : ∀ ts (x : En) bx V W, I ts V → ts.length < a.length + b.length → Below V.heap.size V W → S W → V.heap.size ≤ bx → W.heap[bx]? = some (.cells #[.string x.1, .string x.2] 43 (0, 0)) → Calls Try.prog E (#[.string (f x), .pointer (some ⟨bx, 0, none⟩), .pointer none] ++ caps) W fun e W' => e = .returned (.tuple #[]) ∧ I (ts ++ [(f x, some x, none)]) W' ∧ S W')
    (h2 : ∀ ts (y : En) by_ V W, I ts V → ts.length < a.length + b.length → Below V.heap.size V W → S W → V.heap.size ≤ by_ → W.heap[by_]? = some (.cells #[.string y.1, .string y.2] 43 (0, 0)) → Calls Try.prog E (#[.string (g y), .pointer none, .pointer (some ⟨by_, 0, none⟩)] ++ caps) W fun e W' => e = .returned (.tuple #[]) ∧ I (ts ++ [(g y, none, some y)]) W' ∧ S W')
    (h3 : ∀ ts (x : En) (y : En) bx by_ V W, I ts V → ts.length < a.length + b.length → Below V.heap.size V W → S W → V.heap.size ≤ bx → V.heap.size ≤ by_ → bx ≠ by_ → W.heap[bx]? = some (.cells #[.string x.1, .string x.2] 43 (0, 0)) → W.heap[by_]? = some (.cells #[.string y.1, .string y.2] 43 (0, 0)) → Calls Try.prog E (#[.string (f x), .pointer (some ⟨bx, 0, none⟩), .pointer (some ⟨by_, 0, none⟩)] ++ caps) W fun e W' => e = .returned (.tuple #[]) ∧ I (ts ++ [(f x, some x, some y)]) W' ∧ S W')
    (w : World) (hw : S w) (hi : I [] w) : Calls Try.prog 70 #[.slice ao n c, .slice bo m d, .func (.func F) #[] #[], .func (.func G) #[] #[], .func (.func E) #[] caps] w fun e w' => e = .returned (.tuple #[]) ∧ I (mrg f g a b) w' ∧ S w' := by
  have hmix : Try.prog.follows .mixedOrders = true := by kernel_rfl
  have HS1 := hide hS1
  have HS2 := hide hS2
  have HF := hide hF
  have HG := hide hG
  have HE := hide hE
  have HH1 := hide h1
  have HH2 := hide h2
  have HH3 := hide h3
  have HNA := hide (hS1 w hw).1.hn
  have HNB := hide (hS1 w hw).2.hn
  have hnf := (hS1 w hw).1.few
  have hmf := (hS1 w hw).2.few
  have hni : (n : Int) ≤ 140737488355328 := by omega
  have hmi : (m : Int) ≤ 140737488355328 := by omega
  have HW0 := hide hw
  have HI0 := hide hi
  clear hS1 hS2 hF hG hE h1 h2 h3 hw hi
  have q1 : ∀ (lb : Array Value) (u : World), (binOp .eql 87 (.func (.func F) #[] lb) .nilFunc).run Try.prog u = .ok (.bool false) u := fun _ _ => by kernel_rfl
  have q2 : ∀ (lb : Array Value) (u : World), (binOp .eql 87 (.func (.func G) #[] lb) .nilFunc).run Try.prog u = .ok (.bool false) u := fun _ _ => by kernel_rfl
  have q3 : ∀ (lb : Array Value) (u : World), (binOp .eql 90 (.func (.func E) #[] lb) .nilFunc).run Try.prog u = .ok (.bool false) u := fun _ _ => by kernel_rfl
  go_enter Try.func70, Try.ntmps70
  go_wp2
  clear q1 q2 q3
  go_loopw [10, 11] (fun si sj wr => ∃ (i j : Nat) (ts : List (Tell En En)), i ≤ n ∧ j ≤ m ∧ si = .int .i64 i ∧ sj = .int .i64 j ∧ Hid (ts ++ mrg f g (a.drop i) (b.drop j) = mrg f g a b) ∧ Hid (I ts wr) ∧ Hid (S wr)) (fun si sj _ => (n - (intOf si).toNat) + (m - (intOf sj).toNat))
  case atStart => exact ⟨0, 0, [], Nat.zero_le _, Nat.zero_le _, rfl, rfl, rfl, unhide HI0, unhide HW0⟩
  case round =>
    clear HI0 HW0
    obtain ⟨i, j, ts, hin, hjm, rfl, rfl, HTS, HI, HBR⟩ := hrel
    by_cases hij : i < n ∧ j < m
    · obtain ⟨hi, hj⟩ := hij
      have hii : (i : Int) < (n : Int) := by omega
      have hji : (j : Int) < (m : Int) := by omega
      have hia : i < a.length := by rw [← unhide HNA]; exact hi
      have hjb : j < b.length := by rw [← unhide HNB]; exact hj
      obtain ⟨ga, oa, haohCA, -⟩ := (unhide HS1 _ (unhide HBR)).1.en hia
      have hCA : ∀ W : World, S W → W.cell? ⟨ga, oa + i * 2, none⟩ = some (.string a[i].1) ∧ W.cell? ⟨ga, oa + i * 2 + 1, none⟩ = some (.string a[i].2) := fun W hW => by
        obtain ⟨g0, o0, h0, h1⟩ := (unhide HS1 W hW).1.en hia
        rw [haohCA] at h0
        cases h0
        exact h1
      subst haohCA
      obtain ⟨gb, ob, haohCB, -⟩ := (unhide HS1 _ (unhide HBR)).2.en hjb
      have hCB : ∀ W : World, S W → W.cell? ⟨gb, ob + j * 2, none⟩ = some (.string b[j].1) ∧ W.cell? ⟨gb, ob + j * 2 + 1, none⟩ = some (.string b[j].2) := fun W hW => by
        obtain ⟨g0, o0, h0, h1⟩ := (unhide HS1 W hW).2.en hjb
        rw [haohCB] at h0
        cases h0
        exact h1
      subst haohCB
      have hixA := ixE ga oa n c i hi
      have hixB := ixE gb ob m d j hj
      have HLT : Hid (ts.length < a.length + b.length) := by
        have h1 := congrArg List.length (unhide HTS)
        rw [List.length_append] at h1
        have h2 := mrg_len (f := f) (g := g) a b
        have h3 : 0 < (mrg f g (a.drop i) (b.drop j)).length := by
          rw [drop_at hia, drop_at hjb, mrg]
          split
          · simp
          · split <;> simp
        exact (by omega : ts.length < a.length + b.length)
      have HN1 : Hid (lt (f a[i]) (g b[j]) = true → (ts ++ [(f a[i], some a[i], none)]) ++ mrg f g (a.drop (i + 1)) (b.drop j) = mrg f g a b) := fun h => app_cons _ _ _ _ (by have := unhide HTS; rw [drop_at hia, drop_at hjb, mrg_lt h, ← drop_at hjb] at this; exact this)
      have HN2 : Hid (lt (g b[j]) (f a[i]) = true → (ts ++ [(g b[j], none, some b[j])]) ++ mrg f g (a.drop i) (b.drop (j + 1)) = mrg f g a b) := fun h => app_cons _ _ _ _ (by have := unhide HTS; rw [drop_at hia, drop_at hjb, mrg_gt h, ← drop_at hia] at this; exact this)
      have HN3 : Hid (f a[i] = g b[j] → (ts ++ [(f a[i], some a[i], some b[j])]) ++ mrg f g (a.drop (i + 1)) (b.drop (j + 1)) = mrg f g a b) := fun h => app_cons _ _ _ _ (by have := unhide HTS; rw [drop_at hia, drop_at hjb, mrg_eq h] at this; exact this)
      have HFX := hide ((unhide HF).2 a[i])
      have HGY := hide ((unhide HG).2 b[j])
      have HC1 : Hid (∀ (bx : Nat) (W : World), Below wr.heap.size wr W → S W → (wr.heap.size ≤ bx ∧ W.heap[bx]? = some (.cells #[.string a[i].1, .string a[i].2] 43 (0, 0))) → Calls Try.prog E (#[.string (f a[i]), .pointer (some ⟨bx, 0, none⟩), .pointer none] ++ caps) W fun e W' => e = .returned (.tuple #[]) ∧ I (ts ++ [(f a[i], some a[i], none)]) W' ∧ S W') := fun bx W e1 e2 e3 => unhide HH1 ts a[i] bx wr W (unhide HI) (unhide HLT) e1 e2 e3.1 e3.2
      have HC2 : Hid (∀ (bx by_ : Nat) (W : World), Below wr.heap.size wr W → S W → (wr.heap.size ≤ by_ ∧ bx ≠ by_ ∧ W.heap[by_]? = some (.cells #[.string b[j].1, .string b[j].2] 43 (0, 0))) → Calls Try.prog E (#[.string (g b[j]), .pointer none, .pointer (some ⟨by_, 0, none⟩)] ++ caps) W fun e W' => e = .returned (.tuple #[]) ∧ I (ts ++ [(g b[j], none, some b[j])]) W' ∧ S W') := fun bx by_ W e1 e2 e3 => unhide HH2 ts b[j] by_ wr W (unhide HI) (unhide HLT) e1 e2 e3.1 e3.2.2
      have HC3 : Hid (∀ (bx by_ : Nat) (W : World), Below wr.heap.size wr W → S W → (wr.heap.size ≤ bx ∧ W.heap[bx]? = some (.cells #[.string a[i].1, .string a[i].2] 43 (0, 0))) → (wr.heap.size ≤ by_ ∧ bx ≠ by_ ∧ W.heap[by_]? = some (.cells #[.string b[j].1, .string b[j].2] 43 (0, 0))) → Calls Try.prog E (#[.string (f a[i]), .pointer (some ⟨bx, 0, none⟩), .pointer (some ⟨by_, 0, none⟩)] ++ caps) W fun e W' => e = .returned (.tuple #[]) ∧ I (ts ++ [(f a[i], some a[i], some b[j])]) W' ∧ S W') := fun bx by_ W e1 e2 e3 e4 => unhide HH3 ts a[i] b[j] bx by_ wr W (unhide HI) (unhide HLT) e1 e2 e3.1 e4.1 e4.2.1 e3.2 e4.2.2
      clear HH1 HH2 HH3 HTS HI HLT
      generalize a[i] = x at *
      generalize b[j] = y at *
      obtain ⟨xk, xs⟩ := x
      obtain ⟨yk, ys⟩ := y
      have hCA : ∀ W : World, S W → W.cell? ⟨ga, oa + i * 2, none⟩ = some (.string xk) ∧ W.cell? ⟨ga, oa + i * 2 + 1, none⟩ = some (.string xs) := hCA
      have HFX : Hid (∀ W : World, Calls Try.prog F #[.agg #[.string xk, .string xs]] W fun e W' => e = .returned (.string (f (xk, xs))) ∧ Below W.heap.size W W') := HFX
      have hCB : ∀ W : World, S W → W.cell? ⟨gb, ob + j * 2, none⟩ = some (.string yk) ∧ W.cell? ⟨gb, ob + j * 2 + 1, none⟩ = some (.string ys) := hCB
      have HGY : Hid (∀ W : World, Calls Try.prog G #[.agg #[.string yk, .string ys]] W fun e W' => e = .returned (.string (g (yk, ys))) ∧ Below W.heap.size W W') := HGY
      generalize f (xk, xs) = p at *
      generalize g (yk, ys) = q at *
      generalize oa + i * 2 = pa at *
      generalize ob + j * 2 = pb at *
      go_wp2_with fail
      refine wp_region_last (fun W => S W) 11 hmix (unhide HS2 _ _ (unhide HBR) (belowDrew (Below.refl _ _))) fun hS => ?_
      have HV0 : Hid (Below wr.heap.size wr wr.drew) := belowDrew (Below.refl _ _)
      generalize wr.drew = X0 at hS HV0 ⊢
      refine wpAnyL_take 0 40 (.slice (some ⟨ga, oa, none⟩) n c) [] rfl rfl (by kernel_rfl) (by kernel_rfl) (by kernel_rfl) (by kernel_rfl) (by kernel_rfl) (fun _ _ _ h => h) (by rfl) (fun _ _ => by go_simp) hS ?_
      simp only [Act.put, List.setIfInBounds_toArray, List.set_cons_zero, List.set_cons_succ]
      refine wpAnyL_take 1 41 (.int .i64 (i : Int)) [] rfl rfl (by kernel_rfl) (by kernel_rfl) (by kernel_rfl) (by kernel_rfl) (by kernel_rfl) (fun _ _ _ h => h) (by rfl) (fun _ _ => by go_simp) hS ?_
      simp only [Act.put, List.setIfInBounds_toArray, List.set_cons_zero, List.set_cons_succ]
      refine wpAnyL_take 2 42 (.pointer (some ⟨ga, pa, none⟩)) [] rfl rfl (by kernel_rfl) (by kernel_rfl) (by kernel_rfl) (by kernel_rfl) (by kernel_rfl) (fun _ _ _ h => h) (by rfl) (fun _ _ => by go_simp) hS ?_
      simp only [Act.put, List.setIfInBounds_toArray, List.set_cons_zero, List.set_cons_succ]
      refine wpAnyL_take 3 43 (.agg #[.string xk, .string xs]) [] rfl rfl (by kernel_rfl) (by kernel_rfl) (by kernel_rfl) (by kernel_rfl) (by kernel_rfl) (fun _ _ _ h => h) (by rfl) (fun W hW => by obtain ⟨e0, e1⟩ := hCA W hW; go_simp) hS ?_
      simp only [Act.put, List.setIfInBounds_toArray, List.set_cons_zero, List.set_cons_succ]
      refine wpAnyL_take 4 44 (.slice (some ⟨gb, ob, none⟩) m d) [] rfl rfl (by kernel_rfl) (by kernel_rfl) (by kernel_rfl) (by kernel_rfl) (by kernel_rfl) (fun _ _ _ h => h) (by rfl) (fun _ _ => by go_simp) hS ?_
      simp only [Act.put, List.setIfInBounds_toArray, List.set_cons_zero, List.set_cons_succ]
      refine wpAnyL_take 5 45 (.int .i64 (j : Int)) [] rfl rfl (by kernel_rfl) (by kernel_rfl) (by kernel_rfl) (by kernel_rfl) (by kernel_rfl) (fun _ _ _ h => h) (by rfl) (fun _ _ => by go_simp) hS ?_
      simp only [Act.put, List.setIfInBounds_toArray, List.set_cons_zero, List.set_cons_succ]
      refine wpAnyL_take 6 46 (.pointer (some ⟨gb, pb, none⟩)) [] rfl rfl (by kernel_rfl) (by kernel_rfl) (by kernel_rfl) (by kernel_rfl) (by kernel_rfl) (fun _ _ _ h => h) (by rfl) (fun _ _ => by go_simp) hS ?_
      simp only [Act.put, List.setIfInBounds_toArray, List.set_cons_zero, List.set_cons_succ]
      refine wpAnyL_take 7 47 (.agg #[.string yk, .string ys]) [] rfl rfl (by kernel_rfl) (by kernel_rfl) (by kernel_rfl) (by kernel_rfl) (by kernel_rfl) (fun _ _ _ h => h) (by rfl) (fun W hW => by obtain ⟨e0, e1⟩ := hCB W hW; go_simp) hS ?_
      simp only [Act.put, List.setIfInBounds_toArray, List.set_cons_zero, List.set_cons_succ]
      obtain ⟨M, hM⟩ : ∃ M, M = X0.heap.size := ⟨_, rfl⟩
      have HM := hide hM
      clear hM hCA hCB hixA hixB
      refine wpAnyL_two (i := 8) (j := 9) (by kernel_rfl) rfl rfl (by rfl) (by rfl) (fun K hK => ?_) (fun K hK => ?_)
      · as_aux_lemma =>
          refine wp_alloc_row 43 (by rfl) (some 12) (by rfl) M (unhide HM) #[.string ⟨#[]⟩, .string ⟨#[]⟩] zeroEn ?_
          intro X1 HX1 HBX1 HSX1
          have HV1 : Hid (Below wr.heap.size wr X1) := Below.step (unhide HV0) (by rw [← unhide HM]; exact unhide HBX1)
          have HU1 : Hid (S X1) := unhide HS2 _ _ (unhide HBR) (unhide HV1)
          refine hK _ _ (fun _ => unhide HU1) ?_
          clear hK K
          simp only [Act.put, List.setIfInBounds_toArray, List.set_cons_zero, List.set_cons_succ]
          obtain ⟨M1, hM1⟩ : ∃ M1, M1 = X1.heap.size := ⟨_, rfl⟩
          have HM1 := hide hM1
          have HMM : Hid (M1 = M + 1) := hM1.trans (unhide HSX1)
          clear hM1
          refine wpAnyL_one (i := 9) (by kernel_rfl) rfl (by rfl) fun K hK => ?_
          refine wp_alloc_row 43 (by rfl) (some 13) (by rfl) M1 (unhide HM1) #[.string ⟨#[]⟩, .string ⟨#[]⟩] zeroEn ?_
          intro X2 HX2 HBX2 HSX2
          have HV2 : Hid (Below wr.heap.size wr X2) := Below.step (unhide HV1) (by rw [← unhide HM1]; exact unhide HBX2)
          have HU2 : Hid (S X2) := unhide HS2 _ _ (unhide HBR) (unhide HV2)
          refine hK _ _ (fun _ => unhide HU2) ?_
          clear hK K
          simp only [Act.put, List.setIfInBounds_toArray, List.set_cons_zero, List.set_cons_succ]
          have HM0 : Hid (X2.heap[M]? = some (.cells #[.string ⟨#[]⟩, .string ⟨#[]⟩] 43 (0, 0))) := box_below (unhide HX1) (by rw [← unhide HM1]; exact unhide HBX2)
          have HGX : Hid (True ∧ wr.heap.size ≤ M ∧ True ∧ wr.heap.size ≤ M1 ∧ M ≠ M1) := by
            have h1 := (unhide HV0).size
            have h2 := unhide HM
            have h3 := unhide HMM
            exact ⟨trivial, by omega, trivial, by omega, by omega⟩
          refine wpAnyL_one (i := 10) (by kernel_rfl) rfl (by rfl) fun K hK => ?_
          refine wp_store_agg 43 (.tmp 12) (.tmp 43) (by rfl) (by rfl) M #[.string xk, .string xs] (by with_unfolding_all rfl) (by with_unfolding_all rfl) _ _ (unhide HM0) enInfo rfl (en_one _ _) ?_
          intro X3 HX3
          have HV3 : Hid (Below wr.heap.size wr X3) := (unhide HX3).below (unhide HV2) (unhide HGX).2.1
          have HU3 : Hid (S X3) := unhide HS2 _ _ (unhide HBR) (unhide HV3)
          refine hK _ _ (fun _ => unhide HU3) ?_
          clear hK K
          have HY3 := hide (((unhide HX3).other M1 (fun e => (unhide HGX).2.2.2.2 e.symm)).trans (unhide HX2))
          refine wpAnyL_one (i := 11) (by kernel_rfl) rfl (by rfl) fun K hK => ?_
          refine wp_store_agg 43 (.tmp 13) (.tmp 47) (by rfl) (by rfl) M1 #[.string yk, .string ys] (by with_unfolding_all rfl) (by with_unfolding_all rfl) _ _ (unhide HY3) enInfo rfl (en_one _ _) ?_
          intro X4 HX4
          have HV4 : Hid (Below wr.heap.size wr X4) := (unhide HX4).below (unhide HV3) (unhide HGX).2.2.2.1
          have HBY : Hid (X4.heap[M1]? = some (.cells #[.string yk, .string ys] 43 (0, 0))) := (unhide HX4).new
          have HBX : Hid (X4.heap[M]? = some (.cells #[.string xk, .string xs] 43 (0, 0))) := ((unhide HX4).other M (unhide HGX).2.2.2.2).trans (unhide HX3).new
          refine hK _ _ (fun h => absurd rfl h) ?_
          clear hK K
          refine wpAnyL_done (by kernel_rfl) ?_ _
          clear HV1 HX1 HBX1 HSX1 HU1 HX2 HBX2 HSX2 HU2 HV2 HM0 HX3 HU3 HV3 HY3 HX4 HM1 HM HMM hS HV0
          generalize M = bx at *
          generalize M1 = by_ at *
          have hDA : ∀ W : World, Below X4.heap.size X4 W → W.cell? ⟨bx, 0, none⟩ = some (.string xk) ∧ W.cell? ⟨bx, 1, none⟩ = some (.string xs) := fun W hW => box2 (box_below (unhide HBX) hW)
          have hDB : ∀ W : World, Below X4.heap.size X4 W → W.cell? ⟨by_, 0, none⟩ = some (.string yk) ∧ W.cell? ⟨by_, 1, none⟩ = some (.string ys) := fun W hW => box2 (box_below (unhide HBY) hW)
          go_wp2_with fail
          refine wp_region_last (fun W => Below X4.heap.size X4 W) 7 hmix (belowDrew (Below.refl _ _)) fun hT => ?_
          generalize X4.drew = X4d at hT ⊢
          refine wpAnyL_take 0 48 (.func (.func F) #[] #[]) [] rfl rfl (by kernel_rfl) (by kernel_rfl) (by kernel_rfl) (by kernel_rfl) (by kernel_rfl) (fun _ _ _ h => h) (by rfl) (fun _ _ => by go_simp) hT ?_
          simp only [Act.put, List.setIfInBounds_toArray, List.set_cons_zero, List.set_cons_succ]
          refine wpAnyL_take 1 49 (.agg #[.string xk, .string xs]) [] rfl rfl (by kernel_rfl) (by kernel_rfl) (by kernel_rfl) (by kernel_rfl) (by kernel_rfl) (fun _ _ _ h => h) (by rfl) (fun W hW => by obtain ⟨e0, e1⟩ := hDA W hW; go_simp) hT ?_
          simp only [Act.put, List.setIfInBounds_toArray, List.set_cons_zero, List.set_cons_succ]
          refine wpAnyL_take 3 51 (.func (.func G) #[] #[]) [] rfl rfl (by kernel_rfl) (by kernel_rfl) (by kernel_rfl) (by kernel_rfl) (by kernel_rfl) (fun _ _ _ h => h) (by rfl) (fun _ _ => by go_simp) hT ?_
          simp only [Act.put, List.setIfInBounds_toArray, List.set_cons_zero, List.set_cons_succ]
          refine wpAnyL_take 4 52 (.agg #[.string yk, .string ys]) [] rfl rfl (by kernel_rfl) (by kernel_rfl) (by kernel_rfl) (by kernel_rfl) (by kernel_rfl) (fun _ _ _ h => h) (by rfl) (fun W hW => by obtain ⟨e0, e1⟩ := hDB W hW; go_simp) hT ?_
          simp only [Act.put, List.setIfInBounds_toArray, List.set_cons_zero, List.set_cons_succ]
          refine wpAnyL_one (i := 2) (by kernel_rfl) rfl (by rfl) fun K hK => ?_
          refine wp_call_val (.tmp 48) _ _ (by rfl) F #[] (by with_unfolding_all rfl) #[.agg #[.string xk, .string xs]] (by with_unfolding_all rfl) (unhide HF).1 (some 50) (by rfl) _ (asV (unhide HFX _)) ?_
          rintro _ X5 ⟨rfl, hb⟩
          have HT5 : Hid (Below X4.heap.size X4 X5) := hT.trans (hb.mono hT.size)
          clear hb
          refine hK _ _ (fun _ => unhide HT5) ?_
          clear hK K
          simp only [Act.put, List.setIfInBounds_toArray, List.set_cons_zero, List.set_cons_succ]
          refine wpAnyL_one (i := 5) (by kernel_rfl) rfl (by rfl) fun K hK => ?_
          refine wp_call_val (.tmp 51) _ _ (by rfl) G #[] (by with_unfolding_all rfl) #[.agg #[.string yk, .string ys]] (by with_unfolding_all rfl) (unhide HG).1 (some 53) (by rfl) _ (asV (unhide HGY _)) ?_
          rintro _ X6 ⟨rfl, hb⟩
          have HT6 : Hid (Below X4.heap.size X4 X6) := (unhide HT5).trans (hb.mono (unhide HT5).size)
          clear hb
          refine hK _ _ (fun _ => unhide HT6) ?_
          clear hK K
          simp only [Act.put, List.setIfInBounds_toArray, List.set_cons_zero, List.set_cons_succ]
          refine wpAnyL_one (i := 6) (by kernel_rfl) rfl (by rfl) fun K hK => ?_
          refine wp_val (.string p) (by go_simp) (some 14) (by rfl) ?_
          refine hK _ _ (fun _ => unhide HT6) ?_
          clear hK K
          simp only [Act.put, List.setIfInBounds_toArray, List.set_cons_zero, List.set_cons_succ]
          refine wpAnyL_one (i := 7) (by kernel_rfl) rfl (by rfl) fun K hK => ?_
          refine wp_val (.string q) (by go_simp) (some 15) (by rfl) ?_
          refine hK _ _ (fun _ => unhide HT6) ?_
          clear hK K
          simp only [Act.put, List.setIfInBounds_toArray, List.set_cons_zero, List.set_cons_succ]
          refine wpAnyL_done (by kernel_rfl) ?_ _
          have HE1 : Hid (Below wr.heap.size wr X6) := (unhide HV4).trans ((unhide HT6).mono (unhide HV4).size)
          have HE2 : Hid (S X6) := unhide HS2 _ _ (unhide HBR) (unhide HE1)
          have HE3 := hide (And.intro (unhide HGX).2.1 (box_below (unhide HBX) (unhide HT6)))
          have HE4 := hide (And.intro (unhide HGX).2.2.2.1 (And.intro (unhide HGX).2.2.2.2 (box_below (unhide HBY) (unhide HT6))))
          clear hDA hDB
          rcases lt_cases p q with ⟨hl1, hb1, hb2, -, -, -, -⟩ | ⟨hl1, hl2, hb1, hb2, -, -, -, -⟩ | ⟨hl1, heq⟩
          · have HNX := hide (unhide HN1 hl1)
            clear hl1
            go_wp2_with (first
              | ((with_reducible refine wpList_callv (by rfl) (.tmp 65) #[.tmp 66, .tmp 12, .const (.pointer none)] _ (by rfl) E caps (by with_unfolding_all rfl) #[.string p, .pointer (some ⟨bx, 0, none⟩), .pointer none] (by with_unfolding_all rfl) (unhide HE) (some 67) (by rfl) _ (asV (unhide HC1 bx X6 (unhide HE1) (unhide HE2) (unhide HE3))) ?_); rintro _ X7 ⟨rfl, hi7, hb7⟩; have HI7 := hide hi7; have HB7 := hide hb7; clear hi7 hb7; simp only [Act.put, List.setIfInBounds_toArray, List.set_cons_zero, List.set_cons_succ])
              | fail)
            go_wp2
            go_roundw
            case rel => exact ⟨i + 1, j, _, by omega, by omega, by go_num, rfl, unhide HNX, unhide HI7, unhide HB7⟩
            case measure => simp [intOf]; omega
          · have HNX := hide (unhide HN2 hl2)
            clear hl1 hl2
            go_wp2_with (first
              | ((with_reducible refine wpList_callv (by rfl) (.tmp 74) #[.tmp 75, .const (.pointer none), .tmp 13] _ (by rfl) E caps (by with_unfolding_all rfl) #[.string q, .pointer none, .pointer (some ⟨by_, 0, none⟩)] (by with_unfolding_all rfl) (unhide HE) (some 76) (by rfl) _ (asV (unhide HC2 bx by_ X6 (unhide HE1) (unhide HE2) (unhide HE4))) ?_); rintro _ X7 ⟨rfl, hi7, hb7⟩; have HI7 := hide hi7; have HB7 := hide hb7; clear hi7 hb7; simp only [Act.put, List.setIfInBounds_toArray, List.set_cons_zero, List.set_cons_succ])
              | fail)
            go_wp2
            go_roundw
            case rel => exact ⟨i, j + 1, _, by omega, by omega, rfl, by go_num, unhide HNX, unhide HI7, unhide HB7⟩
            case measure => simp [intOf]; omega
          · have HNX := hide (unhide HN3 heq)
            subst heq
            have hbi := bl_irrefl p.toList
            clear hl1
            go_wp2_with (first
              | ((with_reducible refine wpList_callv (by rfl) (.tmp 54) #[.tmp 55, .tmp 12, .tmp 13] _ (by rfl) E caps (by with_unfolding_all rfl) #[.string p, .pointer (some ⟨bx, 0, none⟩), .pointer (some ⟨by_, 0, none⟩)] (by with_unfolding_all rfl) (unhide HE) (some 56) (by rfl) _ (asV (unhide HC3 bx by_ X6 (unhide HE1) (unhide HE2) (unhide HE3) (unhide HE4))) ?_); rintro _ X7 ⟨rfl, hi7, hb7⟩; have HI7 := hide hi7; have HB7 := hide hb7; clear hi7 hb7; simp only [Act.put, List.setIfInBounds_toArray, List.set_cons_zero, List.set_cons_succ])
              | fail)
            go_wp2
            go_roundw
            case rel => exact ⟨i + 1, j + 1, _, by omega, by omega, by go_num, by go_num, unhide HNX, unhide HI7, unhide HB7⟩
            case measure => simp [intOf]; omega
      · as_aux_lemma =>
          refine wp_alloc_row 43 (by rfl) (some 13) (by rfl) M (unhide HM) #[.string ⟨#[]⟩, .string ⟨#[]⟩] zeroEn ?_
          intro X1 HX1 HBX1 HSX1
          have HV1 : Hid (Below wr.heap.size wr X1) := Below.step (unhide HV0) (by rw [← unhide HM]; exact unhide HBX1)
          have HU1 : Hid (S X1) := unhide HS2 _ _ (unhide HBR) (unhide HV1)
          refine hK _ _ (fun _ => unhide HU1) ?_
          clear hK K
          simp only [Act.put, List.setIfInBounds_toArray, List.set_cons_zero, List.set_cons_succ]
          obtain ⟨M1, hM1⟩ : ∃ M1, M1 = X1.heap.size := ⟨_, rfl⟩
          have HM1 := hide hM1
          have HMM : Hid (M1 = M + 1) := hM1.trans (unhide HSX1)
          clear hM1
          refine wpAnyL_one (i := 8) (by kernel_rfl) rfl (by rfl) fun K hK => ?_
          refine wp_alloc_row 43 (by rfl) (some 12) (by rfl) M1 (unhide HM1) #[.string ⟨#[]⟩, .string ⟨#[]⟩] zeroEn ?_
          intro X2 HX2 HBX2 HSX2
          have HV2 : Hid (Below wr.heap.size wr X2) := Below.step (unhide HV1) (by rw [← unhide HM1]; exact unhide HBX2)
          have HU2 : Hid (S X2) := unhide HS2 _ _ (unhide HBR) (unhide HV2)
          refine hK _ _ (fun _ => unhide HU2) ?_
          clear hK K
          simp only [Act.put, List.setIfInBounds_toArray, List.set_cons_zero, List.set_cons_succ]
          have HM0 : Hid (X2.heap[M]? = some (.cells #[.string ⟨#[]⟩, .string ⟨#[]⟩] 43 (0, 0))) := box_below (unhide HX1) (by rw [← unhide HM1]; exact unhide HBX2)
          have HGX : Hid (True ∧ wr.heap.size ≤ M1 ∧ True ∧ wr.heap.size ≤ M ∧ M1 ≠ M) := by
            have h1 := (unhide HV0).size
            have h2 := unhide HM
            have h3 := unhide HMM
            exact ⟨trivial, by omega, trivial, by omega, by omega⟩
          refine wpAnyL_one (i := 10) (by kernel_rfl) rfl (by rfl) fun K hK => ?_
          refine wp_store_agg 43 (.tmp 12) (.tmp 43) (by rfl) (by rfl) M1 #[.string xk, .string xs] (by with_unfolding_all rfl) (by with_unfolding_all rfl) _ _ (unhide HX2) enInfo rfl (en_one _ _) ?_
          intro X3 HX3
          have HV3 : Hid (Below wr.heap.size wr X3) := (unhide HX3).below (unhide HV2) (unhide HGX).2.1
          have HU3 : Hid (S X3) := unhide HS2 _ _ (unhide HBR) (unhide HV3)
          refine hK _ _ (fun _ => unhide HU3) ?_
          clear hK K
          have HY3 := hide (((unhide HX3).other M (fun e => (unhide HGX).2.2.2.2 e.symm)).trans (unhide HM0))
          refine wpAnyL_one (i := 11) (by kernel_rfl) rfl (by rfl) fun K hK => ?_
          refine wp_store_agg 43 (.tmp 13) (.tmp 47) (by rfl) (by rfl) M #[.string yk, .string ys] (by with_unfolding_all rfl) (by with_unfolding_all rfl) _ _ (unhide HY3) enInfo rfl (en_one _ _) ?_
          intro X4 HX4
          have HV4 : Hid (Below wr.heap.size wr X4) := (unhide HX4).below (unhide HV3) (unhide HGX).2.2.2.1
          have HBY : Hid (X4.heap[M]? = some (.cells #[.string yk, .string ys] 43 (0, 0))) := (unhide HX4).new
          have HBX : Hid (X4.heap[M1]? = some (.cells #[.string xk, .string xs] 43 (0, 0))) := ((unhide HX4).other M1 (unhide HGX).2.2.2.2).trans (unhide HX3).new
          refine hK _ _ (fun h => absurd rfl h) ?_
          clear hK K
          refine wpAnyL_done (by kernel_rfl) ?_ _
          clear HV1 HX1 HBX1 HSX1 HU1 HX2 HBX2 HSX2 HU2 HV2 HM0 HX3 HU3 HV3 HY3 HX4 HM1 HM HMM hS HV0
          generalize M1 = bx at *
          generalize M = by_ at *
          have hDA : ∀ W : World, Below X4.heap.size X4 W → W.cell? ⟨bx, 0, none⟩ = some (.string xk) ∧ W.cell? ⟨bx, 1, none⟩ = some (.string xs) := fun W hW => box2 (box_below (unhide HBX) hW)
          have hDB : ∀ W : World, Below X4.heap.size X4 W → W.cell? ⟨by_, 0, none⟩ = some (.string yk) ∧ W.cell? ⟨by_, 1, none⟩ = some (.string ys) := fun W hW => box2 (box_below (unhide HBY) hW)
          go_wp2_with fail
          refine wp_region_last (fun W => Below X4.heap.size X4 W) 7 hmix (belowDrew (Below.refl _ _)) fun hT => ?_
          generalize X4.drew = X4d at hT ⊢
          refine wpAnyL_take 0 48 (.func (.func F) #[] #[]) [] rfl rfl (by kernel_rfl) (by kernel_rfl) (by kernel_rfl) (by kernel_rfl) (by kernel_rfl) (fun _ _ _ h => h) (by rfl) (fun _ _ => by go_simp) hT ?_
          simp only [Act.put, List.setIfInBounds_toArray, List.set_cons_zero, List.set_cons_succ]
          refine wpAnyL_take 1 49 (.agg #[.string xk, .string xs]) [] rfl rfl (by kernel_rfl) (by kernel_rfl) (by kernel_rfl) (by kernel_rfl) (by kernel_rfl) (fun _ _ _ h => h) (by rfl) (fun W hW => by obtain ⟨e0, e1⟩ := hDA W hW; go_simp) hT ?_
          simp only [Act.put, List.setIfInBounds_toArray, List.set_cons_zero, List.set_cons_succ]
          refine wpAnyL_take 3 51 (.func (.func G) #[] #[]) [] rfl rfl (by kernel_rfl) (by kernel_rfl) (by kernel_rfl) (by kernel_rfl) (by kernel_rfl) (fun _ _ _ h => h) (by rfl) (fun _ _ => by go_simp) hT ?_
          simp only [Act.put, List.setIfInBounds_toArray, List.set_cons_zero, List.set_cons_succ]
          refine wpAnyL_take 4 52 (.agg #[.string yk, .string ys]) [] rfl rfl (by kernel_rfl) (by kernel_rfl) (by kernel_rfl) (by kernel_rfl) (by kernel_rfl) (fun _ _ _ h => h) (by rfl) (fun W hW => by obtain ⟨e0, e1⟩ := hDB W hW; go_simp) hT ?_
          simp only [Act.put, List.setIfInBounds_toArray, List.set_cons_zero, List.set_cons_succ]
          refine wpAnyL_one (i := 2) (by kernel_rfl) rfl (by rfl) fun K hK => ?_
          refine wp_call_val (.tmp 48) _ _ (by rfl) F #[] (by with_unfolding_all rfl) #[.agg #[.string xk, .string xs]] (by with_unfolding_all rfl) (unhide HF).1 (some 50) (by rfl) _ (asV (unhide HFX _)) ?_
          rintro _ X5 ⟨rfl, hb⟩
          have HT5 : Hid (Below X4.heap.size X4 X5) := hT.trans (hb.mono hT.size)
          clear hb
          refine hK _ _ (fun _ => unhide HT5) ?_
          clear hK K
          simp only [Act.put, List.setIfInBounds_toArray, List.set_cons_zero, List.set_cons_succ]
          refine wpAnyL_one (i := 5) (by kernel_rfl) rfl (by rfl) fun K hK => ?_
          refine wp_call_val (.tmp 51) _ _ (by rfl) G #[] (by with_unfolding_all rfl) #[.agg #[.string yk, .string ys]] (by with_unfolding_all rfl) (unhide HG).1 (some 53) (by rfl) _ (asV (unhide HGY _)) ?_
          rintro _ X6 ⟨rfl, hb⟩
          have HT6 : Hid (Below X4.heap.size X4 X6) := (unhide HT5).trans (hb.mono (unhide HT5).size)
          clear hb
          refine hK _ _ (fun _ => unhide HT6) ?_
          clear hK K
          simp only [Act.put, List.setIfInBounds_toArray, List.set_cons_zero, List.set_cons_succ]
          refine wpAnyL_one (i := 6) (by kernel_rfl) rfl (by rfl) fun K hK => ?_
          refine wp_val (.string p) (by go_simp) (some 14) (by rfl) ?_
          refine hK _ _ (fun _ => unhide HT6) ?_
          clear hK K
          simp only [Act.put, List.setIfInBounds_toArray, List.set_cons_zero, List.set_cons_succ]
          refine wpAnyL_one (i := 7) (by kernel_rfl) rfl (by rfl) fun K hK => ?_
          refine wp_val (.string q) (by go_simp) (some 15) (by rfl) ?_
          refine hK _ _ (fun _ => unhide HT6) ?_
          clear hK K
          simp only [Act.put, List.setIfInBounds_toArray, List.set_cons_zero, List.set_cons_succ]
          refine wpAnyL_done (by kernel_rfl) ?_ _
          have HE1 : Hid (Below wr.heap.size wr X6) := (unhide HV4).trans ((unhide HT6).mono (unhide HV4).size)
          have HE2 : Hid (S X6) := unhide HS2 _ _ (unhide HBR) (unhide HE1)
          have HE3 := hide (And.intro (unhide HGX).2.1 (box_below (unhide HBX) (unhide HT6)))
          have HE4 := hide (And.intro (unhide HGX).2.2.2.1 (And.intro (unhide HGX).2.2.2.2 (box_below (unhide HBY) (unhide HT6))))
          clear hDA hDB
          rcases lt_cases p q with ⟨hl1, hb1, hb2, -, -, -, -⟩ | ⟨hl1, hl2, hb1, hb2, -, -, -, -⟩ | ⟨hl1, heq⟩
          · have HNX := hide (unhide HN1 hl1)
            clear hl1
            go_wp2_with (first
              | ((with_reducible refine wpList_callv (by rfl) (.tmp 65) #[.tmp 66, .tmp 12, .const (.pointer none)] _ (by rfl) E caps (by with_unfolding_all rfl) #[.string p, .pointer (some ⟨bx, 0, none⟩), .pointer none] (by with_unfolding_all rfl) (unhide HE) (some 67) (by rfl) _ (asV (unhide HC1 bx X6 (unhide HE1) (unhide HE2) (unhide HE3))) ?_); rintro _ X7 ⟨rfl, hi7, hb7⟩; have HI7 := hide hi7; have HB7 := hide hb7; clear hi7 hb7; simp only [Act.put, List.setIfInBounds_toArray, List.set_cons_zero, List.set_cons_succ])
              | fail)
            go_wp2
            go_roundw
            case rel => exact ⟨i + 1, j, _, by omega, by omega, by go_num, rfl, unhide HNX, unhide HI7, unhide HB7⟩
            case measure => simp [intOf]; omega
          · have HNX := hide (unhide HN2 hl2)
            clear hl1 hl2
            go_wp2_with (first
              | ((with_reducible refine wpList_callv (by rfl) (.tmp 74) #[.tmp 75, .const (.pointer none), .tmp 13] _ (by rfl) E caps (by with_unfolding_all rfl) #[.string q, .pointer none, .pointer (some ⟨by_, 0, none⟩)] (by with_unfolding_all rfl) (unhide HE) (some 76) (by rfl) _ (asV (unhide HC2 bx by_ X6 (unhide HE1) (unhide HE2) (unhide HE4))) ?_); rintro _ X7 ⟨rfl, hi7, hb7⟩; have HI7 := hide hi7; have HB7 := hide hb7; clear hi7 hb7; simp only [Act.put, List.setIfInBounds_toArray, List.set_cons_zero, List.set_cons_succ])
              | fail)
            go_wp2
            go_roundw
            case rel => exact ⟨i, j + 1, _, by omega, by omega, rfl, by go_num, unhide HNX, unhide HI7, unhide HB7⟩
            case measure => simp [intOf]; omega
          · have HNX := hide (unhide HN3 heq)
            subst heq
            have hbi := bl_irrefl p.toList
            clear hl1
            go_wp2_with (first
              | ((with_reducible refine wpList_callv (by rfl) (.tmp 54) #[.tmp 55, .tmp 12, .tmp 13] _ (by rfl) E caps (by with_unfolding_all rfl) #[.string p, .pointer (some ⟨bx, 0, none⟩), .pointer (some ⟨by_, 0, none⟩)] (by with_unfolding_all rfl) (unhide HE) (some 56) (by rfl) _ (asV (unhide HC3 bx by_ X6 (unhide HE1) (unhide HE2) (unhide HE3) (unhide HE4))) ?_); rintro _ X7 ⟨rfl, hi7, hb7⟩; have HI7 := hide hi7; have HB7 := hide hb7; clear hi7 hb7; simp only [Act.put, List.setIfInBounds_toArray, List.set_cons_zero, List.set_cons_succ])
              | fail)
            go_wp2
            go_roundw
            case rel => exact ⟨i + 1, j + 1, _, by omega, by omega, by go_num, by go_num, unhide HNX, unhide HI7, unhide HB7⟩
            case measure => simp [intOf]; omega
    · have hcond : (i : Int) < (n : Int) → ¬ (j : Int) < (m : Int) := fun h1 h2 => hij ⟨by omega, by omega⟩
      have HLA' := (unhide HS1 _ (unhide HBR)).1.tail i hin
      have HLB' := (unhide HS1 _ (unhide HBR)).2.tail j hjm
      have hslA := (unhide HS1 _ (unhide HBR)).1.tailRun i hin
      have hslB := (unhide HS1 _ (unhide HBR)).2.tailRun j hjm
      have HLA : Hid (∀ W, S W → El W (a.drop i) (tlA ao c i 2) (n - i) (c - i)) := fun W hW => (unhide HS1 W hW).1.tail i hin
      have HLB : Hid (∀ W, S W → El W (b.drop j) (tlA bo d j 2) (m - j) (d - j)) := fun W hW => (unhide HS1 W hW).2.tail j hjm
      replace HNA := hide HLA'.hn
      replace HNB := hide HLB'.hn
      have hnaf := HLA'.few
      have hmbf := HLB'.few
      obtain ⟨na, hna⟩ : ∃ na, na = n - i := ⟨_, rfl⟩
      obtain ⟨mb, hmb⟩ : ∃ mb, mb = m - j := ⟨_, rfl⟩
      rw [← hna] at HLA HNA hnaf hslA
      rw [← hmb] at HLB HNB hmbf hslB
      generalize tlA ao c i 2 = ao' at *
      generalize tlA bo d j 2 = bo' at *
      generalize c - i = ca at *
      generalize d - j = cb at *
      have hnai : (na : Int) ≤ 140737488355328 := by omega
      have hmbi : (mb : Int) ≤ 140737488355328 := by omega
      have HZ : Hid (na = 0 ∨ b.drop j = []) := by
        by_cases h : i < n
        · right; exact List.eq_nil_of_length_eq_zero (by rw [← unhide HNB, hmb]; omega)
        · left; omega
      clear HLA' HLB' hna hmb
      generalize a.drop i = a' at *
      generalize b.drop j = b' at *
      by_cases hi : (i : Int) < (n : Int)
      · have hj := hcond hi
        clear hcond hij
        have hdj : decide ((j : Int) < (m : Int)) = false := decide_eq_false hj
        go_wp2
        go_loopw [83] (fun s wr => ∃ (k : Nat) (ts : List (Tell En En)), k ≤ na ∧ s = .int .i64 k ∧ Hid (ts ++ mrg f g (a'.drop k) b' = mrg f g a b) ∧ Hid (I ts wr) ∧ Hid (S wr)) (fun s _ => na - (intOf s).toNat)
        case atStart => exact ⟨0, ts, Nat.zero_le _, rfl, by rw [List.drop_zero]; exact unhide HTS, unhide HI, unhide HBR⟩
        case round =>
          clear HTS HI HBR
          obtain ⟨k, ts, hk, rfl, HTS, HI, HBR⟩ := hrel
          by_cases hlt : k < na
          · have hki : (k : Int) < (na : Int) := by omega
            have hkl : k < a'.length := by rw [← unhide HNA]; exact hlt
            obtain ⟨ga, oa, hao, c0, c1⟩ := (unhide HLA _ (unhide HBR)).en hkl
            rw [hao] at *
            have hix := ixE ga oa na ca k hlt
            have HN1 : Hid ((ts ++ [(f a'[k], some a'[k], none)]) ++ mrg f g (a'.drop (k + 1)) b' = mrg f g a b) := by
              have hb0 : b' = [] := (unhide HZ).resolve_left (by omega)
              have := unhide HTS
              rw [hb0, mrg_r, drop_at hkl, List.map_cons] at this
              rw [hb0, mrg_r]
              exact app_cons _ _ _ _ this
            have HLT : Hid (ts.length < a.length + b.length) := by
              have hb0 : b' = [] := (unhide HZ).resolve_left (by omega)
              have h1 := congrArg List.length (unhide HTS)
              rw [List.length_append, hb0, mrg_r, drop_at hkl, List.map_cons, List.length_cons] at h1
              have h2 := mrg_len (f := f) (g := g) a b
              exact (by omega : ts.length < a.length + b.length)
            have HFX := hide ((unhide HF).2 a'[k])
            have HC1 : Hid (∀ (bx : Nat) (W : World), Below wr.heap.size wr W → (wr.heap.size ≤ bx ∧ W.heap[bx]? = some (.cells #[.string a'[k].1, .string a'[k].2] 43 (0, 0))) → Calls Try.prog E (#[.string (f a'[k]), .pointer (some ⟨bx, 0, none⟩), .pointer none] ++ caps) W fun e W' => e = .returned (.tuple #[]) ∧ I (ts ++ [(f a'[k], some a'[k], none)]) W' ∧ S W') := fun bx W e1 e3 => unhide HH1 ts a'[k] bx wr W (unhide HI) (unhide HLT) e1 (unhide HS2 _ _ (unhide HBR) e1) e3.1 e3.2
            generalize a'[k] = x at *
            obtain ⟨xk, xs⟩ := x
            have c0 : wr.cell? ⟨ga, oa + k * 2, none⟩ = some (.string xk) := c0
            have c1 : wr.cell? ⟨ga, oa + k * 2 + 1, none⟩ = some (.string xs) := c1
            have HFX : Hid (∀ W : World, Calls Try.prog F #[.agg #[.string xk, .string xs]] W fun e W' => e = .returned (.string (f (xk, xs))) ∧ Below W.heap.size W W') := HFX
            generalize f (xk, xs) = p at *
            generalize oa + k * 2 = oo at *
            obtain ⟨M, hM⟩ : ∃ M, M = wr.heap.size := ⟨_, rfl⟩
            have HM := hide hM
            clear hM
            go_wp2_with (first
              | ((with_reducible refine wpList_alloc_en (by rfl) (by rfl) (some 17) (by rfl) M (unhide HM) ?_); intro X1 HX1 HBX1 HSX1; simp only [Act.put, List.setIfInBounds_toArray, List.set_cons_zero, List.set_cons_succ])
              | ((with_reducible refine wpList_store_en (by rfl) (.tmp 17) (.tmp 86) (by rfl) M xk xs (by with_unfolding_all rfl) (by with_unfolding_all rfl) _ _ (unhide HX1) ?_); intro X2 HX2 HE2; simp only [Act.put]; have HB2 : Hid (Below wr.heap.size wr X2) := (by rw [unhide HE2, ← unhide HM]; exact belowRow (unhide HBX1) (Nat.le_refl _) _); obtain ⟨y0, y1⟩ := box2 (unhide HX2))
              | ((with_reducible refine wpList_callv0 (by rfl) (.tmp 88) #[.tmp 89] _ (by rfl) F (by with_unfolding_all rfl) #[.agg #[.string xk, .string xs]] (by with_unfolding_all rfl) (unhide HF).1 (some 90) (by rfl) _ (asV (unhide HFX X2)) ?_); rintro _ X3 ⟨rfl, hb3⟩; have HB3 : Hid (Below wr.heap.size wr X3) := Below.step (unhide HB2) hb3; have HX3 : Hid (X3.heap[M]? = some (.cells #[.string xk, .string xs] 43 (0, 0))) := box_below (unhide HX2) hb3; clear hb3 y0 y1; simp only [Act.put, List.setIfInBounds_toArray, List.set_cons_zero, List.set_cons_succ])
              | ((with_reducible refine wpList_callv (by rfl) (.tmp 87) #[.tmp 90, .tmp 17, .const (.pointer none)] _ (by rfl) E caps (by with_unfolding_all rfl) #[.string p, .pointer (some ⟨M, 0, none⟩), .pointer none] (by with_unfolding_all rfl) (unhide HE) (some 91) (by rfl) _ (asV (unhide HC1 M X3 (unhide HB3) ⟨by rw [unhide HM]; exact Nat.le_refl _, unhide HX3⟩)) ?_); rintro _ X7 ⟨rfl, hi7, hb7⟩; have HI7 := hide hi7; have HB7 := hide hb7; clear hi7 hb7; simp only [Act.put, List.setIfInBounds_toArray, List.set_cons_zero, List.set_cons_succ])
              | fail)
            go_wp2
            go_roundw
            case rel => exact ⟨k + 1, _, by omega, by go_num, unhide HN1, unhide HI7, unhide HB7⟩
            case measure => simp [intOf]; omega
          · obtain rfl : k = na := by omega
            have hki : ¬ (k : Int) < (k : Int) := by omega
            have HTS2 : Hid (ts ++ mrg f g [] b' = mrg f g a b) := by
              have := unhide HTS
              rw [List.drop_eq_nil_of_le (by rw [← unhide HNA]; exact Nat.le_refl _)] at this
              exact this
            clear HTS HLA HNA HZ
            have HTS := HTS2
            clear HTS2
            go_wp2
            go_loopw [97] (fun s wr => ∃ (k : Nat) (ts : List (Tell En En)), k ≤ mb ∧ s = .int .i64 k ∧ Hid (ts ++ mrg f g [] (b'.drop k) = mrg f g a b) ∧ Hid (I ts wr) ∧ Hid (S wr)) (fun s _ => mb - (intOf s).toNat)
            case atStart => exact ⟨0, ts, Nat.zero_le _, rfl, by rw [List.drop_zero]; exact unhide HTS, unhide HI, unhide HBR⟩
            case round =>
              clear HTS HI HBR
              obtain ⟨k, ts, hk, rfl, HTS, HI, HBR⟩ := hrel
              by_cases hlt : k < mb
              · have hki : (k : Int) < (mb : Int) := by omega
                have hkl : k < b'.length := by rw [← unhide HNB]; exact hlt
                obtain ⟨gb, ob, hao, c0, c1⟩ := (unhide HLB _ (unhide HBR)).en hkl
                rw [hao] at *
                have hix := ixE gb ob mb cb k hlt
                have HN1 : Hid ((ts ++ [(g b'[k], none, some b'[k])]) ++ mrg f g [] (b'.drop (k + 1)) = mrg f g a b) := by
                  have := unhide HTS
                  rw [mrg_l, drop_at hkl, List.map_cons] at this
                  rw [mrg_l]
                  exact app_cons _ _ _ _ this
                have HLT : Hid (ts.length < a.length + b.length) := by
                  have h1 := congrArg List.length (unhide HTS)
                  rw [List.length_append, mrg_l, drop_at hkl, List.map_cons, List.length_cons] at h1
                  have h2 := mrg_len (f := f) (g := g) a b
                  exact (by omega : ts.length < a.length + b.length)
                have HFX := hide ((unhide HG).2 b'[k])
                have HC1 : Hid (∀ (bx : Nat) (W : World), Below wr.heap.size wr W → (wr.heap.size ≤ bx ∧ W.heap[bx]? = some (.cells #[.string b'[k].1, .string b'[k].2] 43 (0, 0))) → Calls Try.prog E (#[.string (g b'[k]), .pointer none, .pointer (some ⟨bx, 0, none⟩)] ++ caps) W fun e W' => e = .returned (.tuple #[]) ∧ I (ts ++ [(g b'[k], none, some b'[k])]) W' ∧ S W') := fun bx W e1 e3 => unhide HH2 ts b'[k] bx wr W (unhide HI) (unhide HLT) e1 (unhide HS2 _ _ (unhide HBR) e1) e3.1 e3.2
                generalize b'[k] = y at *
                obtain ⟨yk, ys⟩ := y
                have c0 : wr.cell? ⟨gb, ob + k * 2, none⟩ = some (.string yk) := c0
                have c1 : wr.cell? ⟨gb, ob + k * 2 + 1, none⟩ = some (.string ys) := c1
                have HFX : Hid (∀ W : World, Calls Try.prog G #[.agg #[.string yk, .string ys]] W fun e W' => e = .returned (.string (g (yk, ys))) ∧ Below W.heap.size W W') := HFX
                generalize g (yk, ys) = p at *
                generalize ob + k * 2 = oo at *
                obtain ⟨M, hM⟩ : ∃ M, M = wr.heap.size := ⟨_, rfl⟩
                have HM := hide hM
                clear hM
                go_wp2_with (first
                  | ((with_reducible refine wpList_alloc_en (by rfl) (by rfl) (some 19) (by rfl) M (unhide HM) ?_); intro X1 HX1 HBX1 HSX1; simp only [Act.put, List.setIfInBounds_toArray, List.set_cons_zero, List.set_cons_succ])
                  | ((with_reducible refine wpList_store_en (by rfl) (.tmp 19) (.tmp 100) (by rfl) M yk ys (by with_unfolding_all rfl) (by with_unfolding_all rfl) _ _ (unhide HX1) ?_); intro X2 HX2 HE2; simp only [Act.put]; have HB2 : Hid (Below wr.heap.size wr X2) := (by rw [unhide HE2, ← unhide HM]; exact belowRow (unhide HBX1) (Nat.le_refl _) _); obtain ⟨y0, y1⟩ := box2 (unhide HX2))
                  | ((with_reducible refine wpList_callv0 (by rfl) (.tmp 102) #[.tmp 103] _ (by rfl) G (by with_unfolding_all rfl) #[.agg #[.string yk, .string ys]] (by with_unfolding_all rfl) (unhide HG).1 (some 104) (by rfl) _ (asV (unhide HFX X2)) ?_); rintro _ X3 ⟨rfl, hb3⟩; have HB3 : Hid (Below wr.heap.size wr X3) := Below.step (unhide HB2) hb3; have HX3 : Hid (X3.heap[M]? = some (.cells #[.string yk, .string ys] 43 (0, 0))) := box_below (unhide HX2) hb3; clear hb3 y0 y1; simp only [Act.put, List.setIfInBounds_toArray, List.set_cons_zero, List.set_cons_succ])
                  | ((with_reducible refine wpList_callv (by rfl) (.tmp 101) #[.tmp 104, .const (.pointer none), .tmp 19] _ (by rfl) E caps (by with_unfolding_all rfl) #[.string p, .pointer none, .pointer (some ⟨M, 0, none⟩)] (by with_unfolding_all rfl) (unhide HE) (some 105) (by rfl) _ (asV (unhide HC1 M X3 (unhide HB3) ⟨by rw [unhide HM]; exact Nat.le_refl _, unhide HX3⟩)) ?_); rintro _ X7 ⟨rfl, hi7, hb7⟩; have HI7 := hide hi7; have HB7 := hide hb7; clear hi7 hb7; simp only [Act.put, List.setIfInBounds_toArray, List.set_cons_zero, List.set_cons_succ])
                  | fail)
                go_wp2
                go_roundw
                case rel => exact ⟨k + 1, _, by omega, by go_num, unhide HN1, unhide HI7, unhide HB7⟩
                case measure => simp [intOf]; omega
              · obtain rfl : k = mb := by omega
                have hki : ¬ (k : Int) < (k : Int) := by omega
                go_wp2
                go_returns
                refine ⟨rfl, ?_, unhide HBR⟩
                have := unhide HTS
                rw [List.drop_eq_nil_of_le (by rw [← unhide HNB]; exact Nat.le_refl _), mrg_l, List.map_nil, List.append_nil] at this
                rw [← this]
                exact unhide HI
      · clear hcond hij
        have hdi : decide ((i : Int) < (n : Int)) = false := decide_eq_false hi
        go_wp2
        go_loopw [83] (fun s wr => ∃ (k : Nat) (ts : List (Tell En En)), k ≤ na ∧ s = .int .i64 k ∧ Hid (ts ++ mrg f g (a'.drop k) b' = mrg f g a b) ∧ Hid (I ts wr) ∧ Hid (S wr)) (fun s _ => na - (intOf s).toNat)
        case atStart => exact ⟨0, ts, Nat.zero_le _, rfl, by rw [List.drop_zero]; exact unhide HTS, unhide HI, unhide HBR⟩
        case round =>
          clear HTS HI HBR
          obtain ⟨k, ts, hk, rfl, HTS, HI, HBR⟩ := hrel
          by_cases hlt : k < na
          · have hki : (k : Int) < (na : Int) := by omega
            have hkl : k < a'.length := by rw [← unhide HNA]; exact hlt
            obtain ⟨ga, oa, hao, c0, c1⟩ := (unhide HLA _ (unhide HBR)).en hkl
            rw [hao] at *
            have hix := ixE ga oa na ca k hlt
            have HN1 : Hid ((ts ++ [(f a'[k], some a'[k], none)]) ++ mrg f g (a'.drop (k + 1)) b' = mrg f g a b) := by
              have hb0 : b' = [] := (unhide HZ).resolve_left (by omega)
              have := unhide HTS
              rw [hb0, mrg_r, drop_at hkl, List.map_cons] at this
              rw [hb0, mrg_r]
              exact app_cons _ _ _ _ this
            have HLT : Hid (ts.length < a.length + b.length) := by
              have hb0 : b' = [] := (unhide HZ).resolve_left (by omega)
              have h1 := congrArg List.length (unhide HTS)
              rw [List.length_append, hb0, mrg_r, drop_at hkl, List.map_cons, List.length_cons] at h1
              have h2 := mrg_len (f := f) (g := g) a b
              exact (by omega : ts.length < a.length + b.length)
            have HFX := hide ((unhide HF).2 a'[k])
            have HC1 : Hid (∀ (bx : Nat) (W : World), Below wr.heap.size wr W → (wr.heap.size ≤ bx ∧ W.heap[bx]? = some (.cells #[.string a'[k].1, .string a'[k].2] 43 (0, 0))) → Calls Try.prog E (#[.string (f a'[k]), .pointer (some ⟨bx, 0, none⟩), .pointer none] ++ caps) W fun e W' => e = .returned (.tuple #[]) ∧ I (ts ++ [(f a'[k], some a'[k], none)]) W' ∧ S W') := fun bx W e1 e3 => unhide HH1 ts a'[k] bx wr W (unhide HI) (unhide HLT) e1 (unhide HS2 _ _ (unhide HBR) e1) e3.1 e3.2
            generalize a'[k] = x at *
            obtain ⟨xk, xs⟩ := x
            have c0 : wr.cell? ⟨ga, oa + k * 2, none⟩ = some (.string xk) := c0
            have c1 : wr.cell? ⟨ga, oa + k * 2 + 1, none⟩ = some (.string xs) := c1
            have HFX : Hid (∀ W : World, Calls Try.prog F #[.agg #[.string xk, .string xs]] W fun e W' => e = .returned (.string (f (xk, xs))) ∧ Below W.heap.size W W') := HFX
            generalize f (xk, xs) = p at *
            generalize oa + k * 2 = oo at *
            obtain ⟨M, hM⟩ : ∃ M, M = wr.heap.size := ⟨_, rfl⟩
            have HM := hide hM
            clear hM
            go_wp2_with (first
              | ((with_reducible refine wpList_alloc_en (by rfl) (by rfl) (some 17) (by rfl) M (unhide HM) ?_); intro X1 HX1 HBX1 HSX1; simp only [Act.put, List.setIfInBounds_toArray, List.set_cons_zero, List.set_cons_succ])
              | ((with_reducible refine wpList_store_en (by rfl) (.tmp 17) (.tmp 86) (by rfl) M xk xs (by with_unfolding_all rfl) (by with_unfolding_all rfl) _ _ (unhide HX1) ?_); intro X2 HX2 HE2; simp only [Act.put]; have HB2 : Hid (Below wr.heap.size wr X2) := (by rw [unhide HE2, ← unhide HM]; exact belowRow (unhide HBX1) (Nat.le_refl _) _); obtain ⟨y0, y1⟩ := box2 (unhide HX2))
              | ((with_reducible refine wpList_callv0 (by rfl) (.tmp 88) #[.tmp 89] _ (by rfl) F (by with_unfolding_all rfl) #[.agg #[.string xk, .string xs]] (by with_unfolding_all rfl) (unhide HF).1 (some 90) (by rfl) _ (asV (unhide HFX X2)) ?_); rintro _ X3 ⟨rfl, hb3⟩; have HB3 : Hid (Below wr.heap.size wr X3) := Below.step (unhide HB2) hb3; have HX3 : Hid (X3.heap[M]? = some (.cells #[.string xk, .string xs] 43 (0, 0))) := box_below (unhide HX2) hb3; clear hb3 y0 y1; simp only [Act.put, List.setIfInBounds_toArray, List.set_cons_zero, List.set_cons_succ])
              | ((with_reducible refine wpList_callv (by rfl) (.tmp 87) #[.tmp 90, .tmp 17, .const (.pointer none)] _ (by rfl) E caps (by with_unfolding_all rfl) #[.string p, .pointer (some ⟨M, 0, none⟩), .pointer none] (by with_unfolding_all rfl) (unhide HE) (some 91) (by rfl) _ (asV (unhide HC1 M X3 (unhide HB3) ⟨by rw [unhide HM]; exact Nat.le_refl _, unhide HX3⟩)) ?_); rintro _ X7 ⟨rfl, hi7, hb7⟩; have HI7 := hide hi7; have HB7 := hide hb7; clear hi7 hb7; simp only [Act.put, List.setIfInBounds_toArray, List.set_cons_zero, List.set_cons_succ])
              | fail)
            go_wp2
            go_roundw
            case rel => exact ⟨k + 1, _, by omega, by go_num, unhide HN1, unhide HI7, unhide HB7⟩
            case measure => simp [intOf]; omega
          · obtain rfl : k = na := by omega
            have hki : ¬ (k : Int) < (k : Int) := by omega
            have HTS2 : Hid (ts ++ mrg f g [] b' = mrg f g a b) := by
              have := unhide HTS
              rw [List.drop_eq_nil_of_le (by rw [← unhide HNA]; exact Nat.le_refl _)] at this
              exact this
            clear HTS HLA HNA HZ
            have HTS := HTS2
            clear HTS2
            go_wp2
            go_loopw [97] (fun s wr => ∃ (k : Nat) (ts : List (Tell En En)), k ≤ mb ∧ s = .int .i64 k ∧ Hid (ts ++ mrg f g [] (b'.drop k) = mrg f g a b) ∧ Hid (I ts wr) ∧ Hid (S wr)) (fun s _ => mb - (intOf s).toNat)
            case atStart => exact ⟨0, ts, Nat.zero_le _, rfl, by rw [List.drop_zero]; exact unhide HTS, unhide HI, unhide HBR⟩
            case round =>
              clear HTS HI HBR
              obtain ⟨k, ts, hk, rfl, HTS, HI, HBR⟩ := hrel
              by_cases hlt : k < mb
              · have hki : (k : Int) < (mb : Int) := by omega
                have hkl : k < b'.length := by rw [← unhide HNB]; exact hlt
                obtain ⟨gb, ob, hao, c0, c1⟩ := (unhide HLB _ (unhide HBR)).en hkl
                rw [hao] at *
                have hix := ixE gb ob mb cb k hlt
                have HN1 : Hid ((ts ++ [(g b'[k], none, some b'[k])]) ++ mrg f g [] (b'.drop (k + 1)) = mrg f g a b) := by
                  have := unhide HTS
                  rw [mrg_l, drop_at hkl, List.map_cons] at this
                  rw [mrg_l]
                  exact app_cons _ _ _ _ this
                have HLT : Hid (ts.length < a.length + b.length) := by
                  have h1 := congrArg List.length (unhide HTS)
                  rw [List.length_append, mrg_l, drop_at hkl, List.map_cons, List.length_cons] at h1
                  have h2 := mrg_len (f := f) (g := g) a b
                  exact (by omega : ts.length < a.length + b.length)
                have HFX := hide ((unhide HG).2 b'[k])
                have HC1 : Hid (∀ (bx : Nat) (W : World), Below wr.heap.size wr W → (wr.heap.size ≤ bx ∧ W.heap[bx]? = some (.cells #[.string b'[k].1, .string b'[k].2] 43 (0, 0))) → Calls Try.prog E (#[.string (g b'[k]), .pointer none, .pointer (some ⟨bx, 0, none⟩)] ++ caps) W fun e W' => e = .returned (.tuple #[]) ∧ I (ts ++ [(g b'[k], none, some b'[k])]) W' ∧ S W') := fun bx W e1 e3 => unhide HH2 ts b'[k] bx wr W (unhide HI) (unhide HLT) e1 (unhide HS2 _ _ (unhide HBR) e1) e3.1 e3.2
                generalize b'[k] = y at *
                obtain ⟨yk, ys⟩ := y
                have c0 : wr.cell? ⟨gb, ob + k * 2, none⟩ = some (.string yk) := c0
                have c1 : wr.cell? ⟨gb, ob + k * 2 + 1, none⟩ = some (.string ys) := c1
                have HFX : Hid (∀ W : World, Calls Try.prog G #[.agg #[.string yk, .string ys]] W fun e W' => e = .returned (.string (g (yk, ys))) ∧ Below W.heap.size W W') := HFX
                generalize g (yk, ys) = p at *
                generalize ob + k * 2 = oo at *
                obtain ⟨M, hM⟩ : ∃ M, M = wr.heap.size := ⟨_, rfl⟩
                have HM := hide hM
                clear hM
                go_wp2_with (first
                  | ((with_reducible refine wpList_alloc_en (by rfl) (by rfl) (some 19) (by rfl) M (unhide HM) ?_); intro X1 HX1 HBX1 HSX1; simp only [Act.put, List.setIfInBounds_toArray, List.set_cons_zero, List.set_cons_succ])
                  | ((with_reducible refine wpList_store_en (by rfl) (.tmp 19) (.tmp 100) (by rfl) M yk ys (by with_unfolding_all rfl) (by with_unfolding_all rfl) _ _ (unhide HX1) ?_); intro X2 HX2 HE2; simp only [Act.put]; have HB2 : Hid (Below wr.heap.size wr X2) := (by rw [unhide HE2, ← unhide HM]; exact belowRow (unhide HBX1) (Nat.le_refl _) _); obtain ⟨y0, y1⟩ := box2 (unhide HX2))
                  | ((with_reducible refine wpList_callv0 (by rfl) (.tmp 102) #[.tmp 103] _ (by rfl) G (by with_unfolding_all rfl) #[.agg #[.string yk, .string ys]] (by with_unfolding_all rfl) (unhide HG).1 (some 104) (by rfl) _ (asV (unhide HFX X2)) ?_); rintro _ X3 ⟨rfl, hb3⟩; have HB3 : Hid (Below wr.heap.size wr X3) := Below.step (unhide HB2) hb3; have HX3 : Hid (X3.heap[M]? = some (.cells #[.string yk, .string ys] 43 (0, 0))) := box_below (unhide HX2) hb3; clear hb3 y0 y1; simp only [Act.put, List.setIfInBounds_toArray, List.set_cons_zero, List.set_cons_succ])
                  | ((with_reducible refine wpList_callv (by rfl) (.tmp 101) #[.tmp 104, .const (.pointer none), .tmp 19] _ (by rfl) E caps (by with_unfolding_all rfl) #[.string p, .pointer none, .pointer (some ⟨M, 0, none⟩)] (by with_unfolding_all rfl) (unhide HE) (some 105) (by rfl) _ (asV (unhide HC1 M X3 (unhide HB3) ⟨by rw [unhide HM]; exact Nat.le_refl _, unhide HX3⟩)) ?_); rintro _ X7 ⟨rfl, hi7, hb7⟩; have HI7 := hide hi7; have HB7 := hide hb7; clear hi7 hb7; simp only [Act.put, List.setIfInBounds_toArray, List.set_cons_zero, List.set_cons_succ])
                  | fail)
                go_wp2
                go_roundw
                case rel => exact ⟨k + 1, _, by omega, by go_num, unhide HN1, unhide HI7, unhide HB7⟩
                case measure => simp [intOf]; omega
              · obtain rfl : k = mb := by omega
                have hki : ¬ (k : Int) < (k : Int) := by omega
                go_wp2
                go_returns
                refine ⟨rfl, ?_, unhide HBR⟩
                have := unhide HTS
                rw [List.drop_eq_nil_of_le (by rw [← unhide HNB]; exact Nat.le_refl _), mrg_l, List.map_nil, List.append_nil] at this
                rw [← this]
                exact unhide HI
end Go.Proofs.Ytbahlfpcbplofaa.S
