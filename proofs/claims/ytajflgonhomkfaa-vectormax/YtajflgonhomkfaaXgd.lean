/- Vectors: marks, lists that are lent, and whether they are kept; lists with other counts. -/
import Derived.Test.YtajflgonhomkfaaXk
import Derived.Test.YtajflgonhomkfaaXl
import Derived.Deep.DeepCutAuto
namespace Go.Proofs.Ytajflgonhomkfaa
open Go.RowKit

def mkd (n : Nat) : Nat × Nat := (77, 1125899906842624 + n)
def mks : List (Nat × Nat) := [mkd 1, mkd 2, mkd 3]
set_option maxRecDepth 100000 in
theorem lMark (n : Nat) (hn : n ≤ 1000) (u : World) : Calls Try.prog 49 #[.int .u64 (n : Int)] u fun e u' => e = .returned (.agg #[.int .u32 77, .int .u64 ((1125899906842624 + n : Nat) : Int)]) ∧ Below u.heap.size u u' := by
  obtain ⟨r, hr⟩ : ∃ r : Nat, r = 1125899906842624 + n := ⟨_, rfl⟩
  have hw : IntKind.u64.wrap (1125899906842624 + (n : Int)) = (r : Int) := by rw [IntKind.wrap_u64]; omega
  rw [← hr]
  clear hr hn
  go_enter Try.func49, Try.ntmps49
  go_wp2_with (first
    | ((with_reducible refine wpList_alloc_dot (by rfl) (by rfl) (some 2) (by rfl) u.heap.size rfl ?_); intro W1 HX1 HB1 HS1; simp only [Act.put, List.setIfInBounds_toArray, List.set_cons_zero, List.set_cons_succ])
    | ((with_reducible refine wpList_store_dot (by rfl) (.tmp 2) (.tmp 5) (by rfl) u.heap.size 77 (r : Int) (by with_unfolding_all rfl) (by with_unfolding_all rfl) (unhide HX1) ?_); intro W2 HX2 HE2; simp only [Act.put])
    | fail)
  refine bodyPost_ret (results_cell rfl _ _ u.heap.size 29 #[.int .u32 77, .int .u64 (r : Int)] (0, 0) _ rfl (unhide HX2) dotUnd rfl dotInfo) rfl ?_
  exact ⟨rfl, by rw [unhide HE2]; exact belowRow (unhide HB1) (Nat.le_refl _) _⟩
/-- a list that was lent: the marks lie behind it -/
structure Le (w : World) (B : Nat) (l : List (Nat × Nat)) (g cc : Nat) : Prop where
  own : OwnD w B (l ++ mks) (some ⟨g, 0, none⟩) cc
  fits : Fits l
  len : l.length ≤ 8796093021952
theorem Le.cap {w : World} {B : Nat} {l : List (Nat × Nat)} {g cc : Nat} (h : Le w B l g cc) : l.length + 3 ≤ cc := by
  have := (own_lies h.own).2.1
  rw [List.length_append] at this
  exact this
theorem Le.da {w : World} {B : Nat} {l : List (Nat × Nat)} {g cc : Nat} (h : Le w B l g cc) : Da w l (some ⟨g, 0, none⟩) cc := by
  have h1 := (own_lies h.own).1
  rw [flatD_app] at h1
  exact ⟨⟨h1.pre, by have := h.cap; omega, fun e => by cases e⟩, h.fits, h.len⟩
theorem Le.below {w w' : World} {B : Nat} {l : List (Nat × Nat)} {g cc : Nat} (h : Le w B l g cc) (hb : Below w.heap.size w w') : Le w' B l g cc := ⟨h.own.below hb, h.fits, h.len⟩
theorem Le.down {w : World} {B B' : Nat} {l : List (Nat × Nat)} {g cc : Nat} (h : Le w B l g cc) (hb : B' ≤ B) : Le w B' l g cc := ⟨own_down h.own hb, h.fits, h.len⟩
theorem Le.mark {w : World} {B : Nat} {l : List (Nat × Nat)} {g cc : Nat} (h : Le w B l g cc) (j : Nat) (hj : j < 3) : w.cell? ⟨g, (l.length + j) * 2, none⟩ = some (.int .u32 77) ∧ w.cell? ⟨g, (l.length + j) * 2 + 1, none⟩ = some (.int .u64 ((1125899906842624 + (j + 1) : Nat) : Int)) := by
  have hlen : (l ++ mks).length = l.length + 3 := by rw [List.length_append]; rfl
  obtain ⟨g', o', he, h1, h2⟩ := (own_lies h.own).1.dt (i := l.length + j) (by omega)
  cases he
  have hg : (l ++ mks)[l.length + j]'(by omega) = mkd (j + 1) := by
    rw [List.getElem_append_right (by omega)]
    have : ∀ i (hi : i < mks.length), mks[i] = mkd (i + 1) := fun i hi => by
      match i, hi with
      | 0, _ => rfl
      | 1, _ => rfl
      | 2, _ => rfl
    rw [this]; congr 1; omega
  rw [hg, Nat.zero_add] at h1 h2
  exact ⟨h1, h2⟩
theorem cutD (g n c i : Nat) (hi : i ≤ c) (h0 : 0 < c) (W : World) : (Instr.slice 22 (.slice (some ⟨g, 0, none⟩) n c) none (some (.int .i64 (i : Int))) none).run Try.prog W = .ok (.slice (some ⟨g, 0, none⟩) i c) W := by
  have he : Try.prog.elem 22 = 29 := by kernel_rfl
  rw [run_slice_h W 22 _ _ _ (by rw [he]; exact undD) .i64 i (by omega) (by omega), he, sizeN (n := 2) (by kernel_rfl)]
  simp only [Result.andThen_ok, sliced, Int.toNat_natCast, Nat.sub_zero]
  rw [if_neg (by omega), Option.map_some, Addr.add_mid]
theorem fits_mks : Fits mks := fun d hd => by
  simp only [mks, List.mem_cons, List.not_mem_nil, or_false] at hd
  rcases hd with rfl | rfl | rfl <;> exact ⟨by decide, by decide⟩
set_option maxRecDepth 100000 in
set_option maxHeartbeats 4000000 in
theorem lLent (l : List (Nat × Nat)) (ao : Option Addr) (c : Nat) (u : World) (h : Da u l ao c) : Calls Try.prog 15 #[.slice ao l.length c] u fun e u' => ∃ g cc, e = .returned (.slice (some ⟨g, 0, none⟩) l.length cc) ∧ Le u' u.heap.size l g cc ∧ Below u.heap.size u u' := by
  have HD := hide h
  have hl := h.len
  have HM1 : Hid (∀ w : World, Calls Try.prog 49 #[.int .u64 1] w fun e w' => e = .returned (.agg #[.int .u32 77, .int .u64 1125899906842625]) ∧ Below w.heap.size w w') := fun w => lMark 1 (by decide) w
  have HM2 : Hid (∀ w : World, Calls Try.prog 49 #[.int .u64 2] w fun e w' => e = .returned (.agg #[.int .u32 77, .int .u64 1125899906842626]) ∧ Below w.heap.size w w') := fun w => lMark 2 (by decide) w
  have HM3 : Hid (∀ w : World, Calls Try.prog 49 #[.int .u64 3] w fun e w' => e = .returned (.agg #[.int .u32 77, .int .u64 1125899906842627]) ∧ Below w.heap.size w w') := fun w => lMark 3 (by decide) w
  have HLM : Hid (∀ w : World, Dv (w.alloc (.cells #[.int .u32 77, .int .u64 1125899906842625, .int .u32 77, .int .u64 1125899906842626, .int .u32 77, .int .u64 1125899906842627] 29)) mks (some ⟨w.heap.size, 0, none⟩) 3) := fun w => ⟨fun _ => ⟨_, 0, rfl, fun j v hv => by
    have h1 := heap_alloc_new w (.cells #[.int .u32 77, .int .u64 1125899906842625, .int .u32 77, .int .u64 1125899906842626, .int .u32 77, .int .u64 1125899906842627] 29)
    simp only [World.cell?, h1, Nat.zero_add]
    simpa [flatD, dcs, mks, mkd] using hv⟩, Nat.le_refl _, fun e => by cases e⟩
  obtain ⟨i0, hi, hz, hs, hby⟩ := dot_parts
  obtain ⟨N, hN⟩ : ∃ N, N = u.heap.size := ⟨_, rfl⟩
  have HN := hide hN
  rw [← hN]
  have HUP : Hid (∀ W W' : World, Below N u W → Below W.heap.size W W' → Below N u W') := fun W W' h1 h2 => h1.trans (h2.mono (by rw [hN]; exact h1.size))
  have HSZ : Hid (∀ W : World, Below N u W → N ≤ W.heap.size) := fun W hW => by rw [hN]; exact hW.size
  obtain ⟨n, hn⟩ : ∃ n, n = l.length := ⟨_, rfl⟩
  have HNL := hide hn
  rw [← hn] at hl ⊢
  have hli : (n : Int) ≤ 8796093021952 := by omega
  clear hN hn h
  obtain ⟨n3, hn3⟩ : ∃ m, m = n + 3 := ⟨_, rfl⟩
  have hn3i : (n : Int) + 3 = (n3 : Int) := by omega
  have HLEN : Hid (([] : List (Nat × Nat)).length + l.length ≤ 8796093022208) := by have := unhide HNL; show 0 + l.length ≤ _; omega
  have HLEN2 : Hid (([] ++ l : List (Nat × Nat)).length + mks.length ≤ 8796093022208) := by have := unhide HNL; show (([] ++ l : List (Nat × Nat)).length + 3 ≤ _); rw [List.nil_append]; omega
  have hbb : i0.bytes * n3 ≤ 281474976710656 := by rw [hby]; omega
  have hml : n3 ≤ maxLen := by unfold maxLen; omega
  have HN3 := hide hn3
  clear hn3
  go_enter Try.func15, Try.ntmps15
  go_upto_region 2 with (first
    | (at_make; refine wpList_make_own _ (by rfl) (.const (.int .i64 0)) (.tmp 6) 22 (by rfl) N 29 i0 _ 2 undD hi hz hs .i64 .i64 (n3 : Int) n3 (by rfl) (by rfl) rfl hbb hml (by rw [unhide HN]; exact Nat.le_refl _) ?_; intro W1 HO1 HG1; simp only [Act.put, List.setIfInBounds_toArray, List.set_cons_zero, List.set_cons_succ]; have HB1 : Hid (Below N u W1) := (Below.refl N u).grown HG1 (by rw [unhide HN]; exact Nat.le_refl _) (fun k hk => by cases hk); have HO1' : Hid (OwnD W1 N [] (some ⟨u.heap.size, 0, none⟩) n3) := HO1; clear HO1 HG1)
    | fail)
  go_upto_region 3 with (first
    | (at_builtin; refine wpList_putD (by rfl) (.tmp 8) (.tmp 9) (by rfl) (some 10) (by rfl) N [] l 0 n rfl (unhide HNL) (some ⟨u.heap.size, 0, none⟩) ao n3 c (by rfl) (by rfl) (unhide HO1') ((unhide HD).below (by rw [← unhide HN]; exact unhide HB1)).toDv (unhide HLEN) (unhide HSZ _ (unhide HB1)) ?_; intro x2 m2 c2 W2 EN2 HO2 _ HBE2 _; simp only [Act.put, List.setIfInBounds_toArray, List.set_cons_zero, List.set_cons_succ]; have HB2 : Hid (Below N u W2) := (unhide HB1).trans (unhide HBE2))
    | fail)
  clear HO1' HB1 HBE2
  go_upto_region 4 with (first
    | (go_at_call_of 49 (Value.int IntKind.u64 1); refine (unhide HM1 _).mono ?_; rintro e W3 ⟨rfl, hb1⟩; have HO3 := hide (OwnD.below (unhide HO2) hb1); have HB3 := hide (unhide HUP _ _ (unhide HB2) hb1); clear hb1)
    | (go_at_call_of 49 (Value.int IntKind.u64 2); refine (unhide HM2 _).mono ?_; rintro e W4 ⟨rfl, hb1⟩; have HO4 := hide (OwnD.below (unhide HO3) hb1); have HB4 := hide (unhide HUP _ _ (unhide HB3) hb1); clear hb1)
    | (go_at_call 49; refine (unhide HM3 _).mono ?_; rintro e W5 ⟨rfl, hb1⟩; have HO5 := hide (OwnD.below (unhide HO4) hb1); have HB5 := hide (unhide HUP _ _ (unhide HB4) hb1); clear hb1; have HAL : Hid (Below W5.heap.size W5 (W5.alloc (.cells #[.int .u32 77, .int .u64 1125899906842625, .int .u32 77, .int .u64 1125899906842626, .int .u32 77, .int .u64 1125899906842627] 29))) := (Below.refl _ _).alloc (Nat.le_refl _) _; have HB6 := hide (unhide HUP _ _ (unhide HB5) (unhide HAL)); have HO6 := hide (OwnD.below (unhide HO5) (unhide HAL)))
    | (at_builtin; refine wpList_putD (by rfl) (.tmp 11) (.tmp 15) (by rfl) (some 16) (by rfl) N ([] ++ l) mks m2 3 (unhide EN2) rfl x2 (some ⟨W5.heap.size, 0, none⟩) c2 3 (by rfl) (by rfl) (unhide HO6) (unhide HLM W5) (unhide HLEN2) (unhide HSZ _ (unhide HB6)) ?_; intro x7 m7 c7 W7 EN7 HO7 _ HBE7 _; simp only [Act.put, List.setIfInBounds_toArray, List.set_cons_zero, List.set_cons_succ]; have HB7 : Hid (Below N u W7) := (unhide HB6).trans (unhide HBE7))
    | fail)
  have HO8 : Hid (OwnD W7 N (l ++ mks) x7 c7) := unhide HO7
  obtain ⟨g, hg⟩ := (unhide HO8).pos (by rw [List.length_append]; exact Nat.lt_of_lt_of_le (by decide : 0 < 3) (Nat.le_add_left _ _))
  subst hg
  have HLE : Hid (Le W7 N l g c7) := ⟨unhide HO8, (unhide HD).fits, (unhide HD).len⟩
  have hcut := cutD g m7 c7 n (by have h1 := (unhide HLE).cap; have h2 := unhide HNL; omega) (by have h1 := (unhide HLE).cap; omega)
  go_wp2
  go_ret
  exact ⟨g, c7, rfl, unhide HLE, unhide HB7⟩
/-- other counts -/
def trn (l : List (Nat × Nat)) : List (Nat × Nat) := l.map fun d => (d.1, d.2 % 5 + 2)
theorem trn_len (l : List (Nat × Nat)) : (trn l).length = l.length := List.length_map ..
theorem trn_take (l : List (Nat × Nat)) {k : Nat} (h : k < l.length) : trn (l.take (k + 1)) = trn (l.take k) ++ [(l[k].1, l[k].2 % 5 + 2)] := by
  rw [List.take_succ_eq_append_getElem h]; simp only [trn, List.map_append, List.map_cons, List.map_nil]
theorem trn_fits {l : List (Nat × Nat)} (h : Fits l) : Fits (trn l) := fun d hd => by
  obtain ⟨x, hx, rfl⟩ := List.mem_map.1 hd
  exact ⟨(h x hx).1, by simp only; omega⟩
set_option maxRecDepth 100000 in
set_option maxHeartbeats 4000000 in
theorem lTurned (l : List (Nat × Nat)) (ao : Option Addr) (c : Nat) (u : World) (h : Da u l ao c) : Calls Try.prog 18 #[.slice ao l.length c] u fun e u' => ∃ xo cc, e = .returned (.slice xo l.length cc) ∧ OwnD u' u.heap.size (trn l) xo cc ∧ Below u.heap.size u u' := by
  have HQ := hide h.lies
  have hl := h.len
  obtain ⟨N, hN⟩ : ∃ N, N = u.heap.size := ⟨_, rfl⟩
  have HN := hide hN
  rw [← hN]
  have HSZ : Hid (∀ W : World, Below N u W → N ≤ W.heap.size) := fun W hW => by rw [hN]; exact hW.size
  obtain ⟨nl, hn⟩ : ∃ n, n = l.length := ⟨_, rfl⟩
  have HNL := hide hn
  rw [← hn] at hl ⊢
  have hli : (nl : Int) ≤ 8796093021952 := by omega
  have hmix : Try.prog.follows .mixedOrders = true := by kernel_rfl
  have HHL := hide hl
  clear hN hn h hl
  go_enter Try.func18, Try.ntmps18
  go_wp2
  go_loopw [3, 4] (fun s3 s4 wr => ∃ (xo : Option Addr) (n3 i c3 : Nat), s3 = .slice xo n3 c3 ∧ s4 = .int .i64 (i : Int) ∧ i ≤ nl ∧ Hid (n3 = (trn (l.take i)).length) ∧ Hid (OwnD wr N (trn (l.take i)) xo c3 ∧ Below N u wr)) (fun _ s4 _ => nl - (intOf s4).toNat)
  case atStart => exact ⟨none, 0, 0, 0, rfl, rfl, Nat.zero_le _, rfl, ⟨World.ownsRow_nil _ _ _ _, by rw [unhide HN]; exact Below.refl _ _⟩⟩
  case round =>
    obtain ⟨xo, n3, i, c3, rfl, rfl, hi, HN3, HI⟩ := hrel
    by_cases hlt : i < nl
    · have hii : (i : Int) < (nl : Int) := by omega
      have hil : i < l.length := by rw [← unhide HNL]; exact hlt
      obtain ⟨g, o, hao, e1, e2⟩ := (unhide HQ).dt hil
      subst hao
      have hC1 : ∀ W : World, Below N u W → W.cell? ⟨g, o + i * 2, none⟩ = some (.int .u32 (l[i].1 : Int)) ∧ W.cell? ⟨g, o + i * 2 + 1, none⟩ = some (.int .u64 (l[i].2 : Int)) := fun W hW => ⟨cell_keep (unhide HN) hW e1, cell_keep (unhide HN) hW e2⟩
      have hix := ixD g o nl c i hlt
      have HTK := hide (trn_take l hil)
      have HLEN : Hid ((trn (l.take i)).length + 1 ≤ 8796093022208) := by rw [trn_len, List.length_take]; have := unhide HHL; show min i l.length + 1 ≤ _; omega
      clear e1 e2
      generalize o + i * 2 = oo at *
      generalize l[i] = d at *
      obtain ⟨da, dc⟩ := d
      have hC1 : ∀ W : World, Below N u W → W.cell? ⟨g, oo, none⟩ = some (.int .u32 (da : Int)) ∧ W.cell? ⟨g, oo + 1, none⟩ = some (.int .u64 (dc : Int)) := hC1
      obtain ⟨dm, hdm⟩ : ∃ m : Nat, m = dc % 5 := ⟨_, rfl⟩
      obtain ⟨dq, hdq⟩ : ∃ m : Nat, m = dm + 2 := ⟨_, rfl⟩
      have hr1 : (dc : Int).tmod 5 = (dm : Int) := by rw [hdm]; simp [Int.tmod]
      have hdml : dm < 5 := by rw [hdm]; exact Nat.mod_lt _ (by decide)
      have hr2 : IntKind.u64.wrap ((dm : Int) + 2) = (dq : Int) := by rw [IntKind.wrap_u64]; omega
      have hr1' : IntKind.u64.wrap ((dc : Int).tmod 5) = (dm : Int) := by rw [hr1, IntKind.wrap_u64]; omega
      have HTQ : Hid (trn (l.take (i + 1)) = trn (l.take i) ++ [(da, dq)]) := by rw [unhide HTK, hdq, hdm]; exact rfl
      clear hdm hdq hdml HTK
      generalize trn (l.take i) = acc at *
      go_wp2_with fail
      refine wp_region_last (fun W => Below N u W) 16 hmix (belowDrew (unhide HI).2) fun hS => ?_
      have HO2 : Hid (OwnD wr.drew N acc xo c3) := (unhide HI).1
      have HBX : Hid (Below N u wr.drew) := belowDrew (unhide HI).2
      generalize wr.drew = X2 at hS HO2 HBX ⊢
      refine wpAnyL_take 0 11 (.slice xo n3 c3) [] rfl rfl (by kernel_rfl) (by kernel_rfl) (by kernel_rfl) (by kernel_rfl) (by kernel_rfl) (fun _ _ _ h => h) (by rfl) (fun u _ => by go_simp) hS ?_
      simp only [Act.put, List.setIfInBounds_toArray, List.set_cons_zero, List.set_cons_succ]
      refine wpAnyL_take 1 12 (.slice (some ⟨g, o, none⟩) nl c) [] rfl rfl (by kernel_rfl) (by kernel_rfl) (by kernel_rfl) (by kernel_rfl) (by kernel_rfl) (fun _ _ _ h => h) (by rfl) (fun u _ => by go_simp) hS ?_
      simp only [Act.put, List.setIfInBounds_toArray, List.set_cons_zero, List.set_cons_succ]
      refine wpAnyL_take 2 13 (.int .i64 (i : Int)) [] rfl rfl (by kernel_rfl) (by kernel_rfl) (by kernel_rfl) (by kernel_rfl) (by kernel_rfl) (fun _ _ _ h => h) (by rfl) (fun u _ => by go_simp) hS ?_
      simp only [Act.put, List.setIfInBounds_toArray, List.set_cons_zero, List.set_cons_succ]
      refine wpAnyL_take 3 14 (.pointer (some ⟨g, oo, none⟩)) [] rfl rfl (by kernel_rfl) (by kernel_rfl) (by kernel_rfl) (by kernel_rfl) (by kernel_rfl) (fun _ _ _ h => h) (by rfl) (fun u _ => by go_simp) hS ?_
      simp only [Act.put, List.setIfInBounds_toArray, List.set_cons_zero, List.set_cons_succ]
      refine wpAnyL_take 4 15 (.pointer (some ⟨g, oo, none⟩)) [] rfl rfl (by kernel_rfl) (by kernel_rfl) (by kernel_rfl) (by kernel_rfl) (by kernel_rfl) (fun _ _ _ h => h) (by rfl) (fun u _ => by go_simp) hS ?_
      simp only [Act.put, List.setIfInBounds_toArray, List.set_cons_zero, List.set_cons_succ]
      refine wpAnyL_take 5 16 (.int .u32 (da : Int)) [] rfl rfl (by kernel_rfl) (by kernel_rfl) (by kernel_rfl) (by kernel_rfl) (by kernel_rfl) (fun _ _ _ h => h) (by rfl) (fun W hW => by obtain ⟨e1, e2⟩ := hC1 W hW; go_simp) hS ?_
      simp only [Act.put, List.setIfInBounds_toArray, List.set_cons_zero, List.set_cons_succ]
      refine wpAnyL_take 6 17 (.slice (some ⟨g, o, none⟩) nl c) [] rfl rfl (by kernel_rfl) (by kernel_rfl) (by kernel_rfl) (by kernel_rfl) (by kernel_rfl) (fun _ _ _ h => h) (by rfl) (fun u _ => by go_simp) hS ?_
      simp only [Act.put, List.setIfInBounds_toArray, List.set_cons_zero, List.set_cons_succ]
      refine wpAnyL_take 7 18 (.int .i64 (i : Int)) [] rfl rfl (by kernel_rfl) (by kernel_rfl) (by kernel_rfl) (by kernel_rfl) (by kernel_rfl) (fun _ _ _ h => h) (by rfl) (fun u _ => by go_simp) hS ?_
      simp only [Act.put, List.setIfInBounds_toArray, List.set_cons_zero, List.set_cons_succ]
      refine wpAnyL_take 8 19 (.pointer (some ⟨g, oo, none⟩)) [] rfl rfl (by kernel_rfl) (by kernel_rfl) (by kernel_rfl) (by kernel_rfl) (by kernel_rfl) (fun _ _ _ h => h) (by rfl) (fun u _ => by go_simp) hS ?_
      simp only [Act.put, List.setIfInBounds_toArray, List.set_cons_zero, List.set_cons_succ]
      refine wpAnyL_take 9 20 (.pointer (some ⟨g, oo + 1, none⟩)) [] rfl rfl (by kernel_rfl) (by kernel_rfl) (by kernel_rfl) (by kernel_rfl) (by kernel_rfl) (fun _ _ _ h => h) (by rfl) (fun u _ => by go_simp) hS ?_
      simp only [Act.put, List.setIfInBounds_toArray, List.set_cons_zero, List.set_cons_succ]
      refine wpAnyL_take 10 21 (.int .u64 (dc : Int)) [] rfl rfl (by kernel_rfl) (by kernel_rfl) (by kernel_rfl) (by kernel_rfl) (by kernel_rfl) (fun _ _ _ h => h) (by rfl) (fun W hW => by obtain ⟨e1, e2⟩ := hC1 W hW; go_simp) hS ?_
      simp only [Act.put, List.setIfInBounds_toArray, List.set_cons_zero, List.set_cons_succ]
      refine wpAnyL_take 11 22 (.int .u64 (dm : Int)) [] rfl rfl (by kernel_rfl) (by kernel_rfl) (by kernel_rfl) (by kernel_rfl) (by kernel_rfl) (fun _ _ _ h => h) (by rfl) (fun u _ => by go_simp) hS ?_
      simp only [Act.put, List.setIfInBounds_toArray, List.set_cons_zero, List.set_cons_succ]
      refine wpAnyL_take 12 23 (.int .u64 (dq : Int)) [] rfl rfl (by kernel_rfl) (by kernel_rfl) (by kernel_rfl) (by kernel_rfl) (by kernel_rfl) (fun _ _ _ h => h) (by rfl) (fun u _ => by go_simp) hS ?_
      simp only [Act.put, List.setIfInBounds_toArray, List.set_cons_zero, List.set_cons_succ]
      refine wpAnyL_take 13 24 (.agg #[.int .u32 (da : Int), .int .u64 (dq : Int)]) [] rfl rfl (by kernel_rfl) (by kernel_rfl) (by kernel_rfl) (by kernel_rfl) (by kernel_rfl) (fun _ _ _ h => h) (by rfl) (fun u _ => by go_simp) hS ?_
      simp only [Act.put, List.setIfInBounds_toArray, List.set_cons_zero, List.set_cons_succ]
      refine wpAnyL_one (i := 14) (by kernel_rfl) rfl (by rfl) fun K hK => ?_
      refine wp_buildTo (by rfl) _ _ (by simp only [List.map_toArray, List.map_cons, List.map_nil]; exact bsD X2 _ _) (some 25) (by rfl) ?_
      obtain ⟨X3, hw3⟩ : ∃ X, X = X2.alloc (.cells #[.int .u32 (((da, dq) : Nat × Nat).1 : Int), .int .u64 (((da, dq) : Nat × Nat).2 : Int)] 29) := ⟨_, rfl⟩
      obtain ⟨B3, hb3⟩ : ∃ X, X = X2.heap.size := ⟨_, rfl⟩
      have hbe : Below X2.heap.size X2 X3 := by rw [hw3]; exact (Below.refl _ _).alloc (Nat.le_refl _) _
      have HB3 : Hid (Below N u X3) := (unhide HBX).trans (hbe.mono (unhide HSZ _ (unhide HBX)))
      have HD3 : Hid (Dv X3 [(da, dq)] (some ⟨B3, 0, none⟩) 1) := by rw [hw3, hb3]; exact Dv.one _ _ _
      have HO3 := hide (OwnD.below (unhide HO2) hbe)
      refine hK _ _ (fun _ => by rw [show X2.alloc _ = X3 from hw3.symm]; exact unhide HB3) ?_
      rw [show X2.alloc _ = X3 from hw3.symm, ← hb3]
      clear hK K hw3 hb3 hbe
      simp only [Act.put, List.setIfInBounds_toArray, List.set_cons_zero, List.set_cons_succ]
      refine wpAnyL_one (i := 15) (by kernel_rfl) rfl (by rfl) fun K hK => ?_
      refine wp_putD (.tmp 11) (.tmp 25) (by rfl) (some 26) (by rfl) N acc [(da, dq)] n3 1 (unhide HN3) rfl xo (some ⟨B3, 0, none⟩) c3 1 (by rfl) (by rfl) (unhide HO3) (unhide HD3) (unhide HLEN) (unhide HSZ _ (unhide HB3)) ?_
      intro xo4 n4 c4 X4 HN4 HO4 HG4 HBE4 _
      have HB4 : Hid (Below N u X4) := (unhide HB3).trans (unhide HBE4)
      refine hK _ _ (fun _ => unhide HB4) ?_
      clear hK K
      simp only [Act.put, List.setIfInBounds_toArray, List.set_cons_zero, List.set_cons_succ]
      refine wpAnyL_one (i := 16) (by kernel_rfl) rfl (by rfl) fun K hK => ?_
      refine wp_val (.slice xo4 n4 c4) (by go_simp) (some 3) (by rfl) ?_
      refine hK _ _ (fun _ => unhide HB4) ?_
      clear hK K
      simp only [Act.put, List.setIfInBounds_toArray, List.set_cons_zero, List.set_cons_succ]
      refine wpAnyL_done (by kernel_rfl) ?_ _
      go_wp2
      go_roundw
      case rel => exact ⟨xo4, n4, i + 1, c4, rfl, by go_num, by omega, by rw [unhide HTQ]; exact unhide HN4, by rw [unhide HTQ]; exact ⟨unhide HO4, unhide HB4⟩⟩
      case measure => simp [intOf]; omega
    · obtain rfl : i = nl := by omega
      have hii : ¬ (i : Int) < (i : Int) := by omega
      have HE : Hid (trn (l.take i) = trn l ∧ n3 = i) := by
        have h1 : l.take i = l := List.take_of_length_le (by rw [← unhide HNL]; exact Nat.le_refl _)
        refine ⟨by rw [h1], ?_⟩
        rw [unhide HN3, h1, trn_len, ← unhide HNL]
      obtain ⟨_, rfl⟩ := unhide HE
      go_wp2
      go_ret
      exact ⟨xo, c3, rfl, by rw [← (unhide HE).1]; exact (unhide HI).1, (unhide HI).2⟩
end Go.Proofs.Ytajflgonhomkfaa
