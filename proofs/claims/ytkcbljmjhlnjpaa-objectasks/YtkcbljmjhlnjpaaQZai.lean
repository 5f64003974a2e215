/- States, the document's side: Take. Written by mkzai.py. -/
import Derived.Test.YtkcbljmjhlnjpaaQ15
import Derived.Test.YtkcbljmjhlnjpaaQZar
import Derived.Test.YtkcbljmjhlnjpaaQXhb
import Derived.Test.YtkcbljmjhlnjpaaQZah
namespace Go.Proofs.Ytkcbljmjhlnjpaa
open Go.RowKit Go.Lib
/-- a sibling, as the document takes it -/
def dtX (s : ByteArray) (p : Nat) (e : Int) : Sb × Nat × Int :=
  let x := W.uintS s p e 4294967295
  let y := W.uintS s x.2.1 x.2.2 1099511627776
  let z := W.fixS s y.2.1 y.2.2 1
  let t := W.textS s z.2.1 z.2.2 40
  (⟨x.1, y.1, decide (z.1 % 256 = 1), t.1⟩, t.2.1, t.2.2)
theorem dtX_eq {s : ByteArray} {p : Nat} {e : Int} {xa px xc py xm pm : Nat} {ex ey em : Int} {tv : ByteArray} {pt : Nat} {et : Int} (h1 : W.uintS s p e 4294967295 = (xa, px, ex)) (h2 : W.uintS s px ex 1099511627776 = (xc, py, ey)) (h3 : W.fixS s py ey 1 = (xm, pm, em)) (h4 : W.textS s pm em 40 = (tv, pt, et)) :
    dtX s p e = (⟨xa, xc, decide (xm % 256 = 1), tv⟩, pt, et) := by
  unfold dtX
  simp only [h1, h2, h3, h4]
theorem textS_le (s : ByteArray) (p : Nat) (e : Int) : (W.textS s p e 40).1.size ≤ 140737488355328 := by
  unfold W.textS
  rw [if_neg (by decide)]
  split
  · simp [ByteArray.size]
  · have h1 := W.rawS_size s (W.uintS s p e 40).2.1 (W.uintS s p e 40).2.2 (W.uintS s p e 40).1
    have h2 := uintS_le s p e 40
    have e1 : (40 : Int).toNat = 40 := rfl
    rw [e1]
    omega
theorem dtX_fit (s : ByteArray) (p : Nat) (e : Int) : (dtX s p e).1.Fit := by
  refine ⟨?_, ?_, ?_⟩
  · have := uintS_le s p e 4294967295
    show (W.uintS s p e 4294967295).1 < _
    omega
  · have := uintS_le s (W.uintS s p e 4294967295).2.1 (W.uintS s p e 4294967295).2.2 1099511627776
    show (W.uintS s (W.uintS s p e 4294967295).2.1 (W.uintS s p e 4294967295).2.2 1099511627776).1 < _
    omega
  · exact textS_le s _ _
theorem dtX_fwd {s : ByteArray} {x : Sb} {p : Nat} {t : List UInt8} (hf : x.Fit) (hm : x.may) (hc : x.c ≤ 1099511627776) (h : s.data.toList.drop p = sibB x ++ t) : dtX s p 0 = (x, p + (sibB x).length, 0) := by
  have hv : x.val.size ≤ 40 := by unfold Sb.may at hm; split at hm <;> omega
  have e0 : sibB x = W.uintB 9 x.a ++ (W.uintB 9 x.c ++ ([if x.gone then 1 else 0] ++ textB x.val)) := rfl
  rw [e0, List.append_assoc] at h
  have h1 := W.uint_fwd (s := s) (p := p) (most := 4294967295) h (by have := hf.1; omega) (by have := hf.1; omega)
  have h' := drop_app h
  rw [List.append_assoc] at h'
  have h2 := W.uint_fwd (s := s) (most := 1099511627776) h' hf.2.1 hc
  have h'' := drop_app h'
  rw [List.append_assoc] at h''
  have h3 := fix1_fwd h''
  have h4 := text_fwd (drop_app h'') hv
  have h5 := dtX_eq h1 h2 h3 h4
  rw [h5]
  refine Prod.ext ?_ (Prod.ext ?_ rfl)
  · refine Sb.ext' rfl rfl ?_ rfl
    show decide ((if x.gone then 1 else 0 : UInt8).toNat % 256 = 1) = x.gone
    cases x.gone <;> rfl
  · show _ = p + (sibB x).length
    rw [e0]
    simp only [List.length_append, List.length_cons, List.length_nil]
    omega
/-- siblings, as the document takes them -/
def dtXs (s : ByteArray) : Nat → Nat → Int → List Sb × Nat × Int
  | 0, p, e => ([], p, e)
  | n + 1, p, e => ((dtX s p e).1 :: (dtXs s n (dtX s p e).2.1 (dtX s p e).2.2).1, (dtXs s n (dtX s p e).2.1 (dtX s p e).2.2).2)
theorem dtXs_zero (s : ByteArray) (p : Nat) (e : Int) : dtXs s 0 p e = ([], p, e) := rfl
theorem dtXs_succ (s : ByteArray) (n p : Nat) (e : Int) : dtXs s (n + 1) p e = ((dtX s p e).1 :: (dtXs s n (dtX s p e).2.1 (dtX s p e).2.2).1, (dtXs s n (dtX s p e).2.1 (dtX s p e).2.2).2) := rfl
theorem dtXs_fit (s : ByteArray) : ∀ (n p : Nat) (e : Int), FitS (dtXs s n p e).1 ∧ (dtXs s n p e).1.length = n
  | 0, p, e => ⟨fun x hx => (by cases hx), rfl⟩
  | n + 1, p, e => by
    rw [dtXs_succ]
    have := dtXs_fit s n (dtX s p e).2.1 (dtX s p e).2.2
    refine ⟨fun x hx => ?_, by simp only [List.length_cons]; omega⟩
    rcases List.mem_cons.1 hx with rfl | hx
    · exact dtX_fit s p e
    · exact this.1 x hx
theorem dtXs_fwd (s : ByteArray) : ∀ (l : List Sb) (p : Nat) (t : List UInt8), (∀ x ∈ l, x.Fit ∧ x.may ∧ x.c ≤ 1099511627776) → s.data.toList.drop p = sibsB l ++ t → dtXs s l.length p 0 = (l, p + (sibsB l).length, 0)
  | [], p, t, _, _ => by simp [dtXs, sibsB]
  | x :: l, p, t, hx, h => by
    have e : sibsB (x :: l) = sibB x ++ sibsB l := by simp [sibsB]
    rw [e, List.append_assoc] at h
    have h0 := hx x (List.mem_cons_self ..)
    have h1 := dtX_fwd h0.1 h0.2.1 h0.2.2 h
    have h3 := dtXs_fwd s l _ t (fun y hy => hx y (List.mem_cons_of_mem _ hy)) (drop_app h)
    rw [List.length_cons, dtXs_succ, h1]
    simp only [h3]
    rw [e, List.length_append, Nat.add_assoc]
/-- a state, as the document takes it -/
noncomputable def dtT (s : ByteArray) (p : Nat) (e : Int) : St × Nat × Int :=
  let x := W.uintS s (tkV s p e).2.1 (takeE s p e) 64
  (⟨takeL s p e, (dtXs s x.1 x.2.1 x.2.2).1⟩, (dtXs s x.1 x.2.1 x.2.2).2)
theorem dtT_fit (s : ByteArray) (p : Nat) (e : Int) : FitT (dtT s p e).1 ∧ (dtT s p e).1.seen.length ≤ 64 ∧ (dtT s p e).1.sibs.length ≤ 64 :=
  ⟨⟨(takeL_fits s p e).1, (dtXs_fit s _ _ _).1⟩, (takeL_fits s p e).2, by
    show (dtXs s (W.uintS s (tkV s p e).2.1 (takeE s p e) 64).1 (W.uintS s (tkV s p e).2.1 (takeE s p e) 64).2.1 (W.uintS s (tkV s p e).2.1 (takeE s p e) 64).2.2).1.length ≤ 64
    rw [(dtXs_fit s _ _ _).2]; exact uintS_le s _ _ 64⟩
theorem dtT_fwd {s : St} (h : SOk s) (hf : FitT s) : dtT ⟨(stB s).toArray⟩ 0 0 = (s, (stB s).length, 0) := by
  have e0 : (⟨(stB s).toArray⟩ : ByteArray).data.toList.drop 0 = vecB s.seen ++ (W.uintB 9 s.sibs.length ++ sibsB s.sibs) := by simp [stB]
  have h1 := tkV_fwd ⟨(stB s).toArray⟩ s.seen 0 _ (small_ok h.ok hf.seen) h.slen e0
  have he : takeE ⟨(stB s).toArray⟩ 0 0 = 0 := by unfold takeE; rw [h1]; simp [V.okB_true.2 h.ok]
  have hl : takeL ⟨(stB s).toArray⟩ 0 0 = s.seen := by unfold takeL; rw [he, h1]; simp
  have e1 := drop_app e0
  have h2 := W.uint_fwd (most := 64) e1 (by have := h.len; omega) h.len
  have h3 := dtXs_fwd ⟨(stB s).toArray⟩ s.sibs _ [] (fun x hx => ⟨hf.sibs x hx, h.may x hx, sok_c h x hx⟩) (by rw [List.append_nil]; exact drop_app e1)
  unfold dtT
  rw [he, hl, h1]
  simp only [h2, h3]
  refine Prod.ext rfl (Prod.ext ?_ rfl)
  show _ = (stB s).length
  unfold stB
  simp only [List.length_append]
  omega
/-- what the document's Decode answers is what Decode answers -/
theorem dec_doc {s : ByteArray} {T : St} {q : Nat} {e : Int} (h : dtT s 0 0 = (T, q, e)) : (W.endE s.size q e = 0 → (encT T).2 = 0 → (encT T).1 = s → decT s = (T, 0)) ∧ (¬ (W.endE s.size q e = 0 ∧ (encT T).2 = 0 ∧ (encT T).1 = s) → decT s = (St.none, 110)) := by
  have hfit : FitT T := by have := (dtT_fit s 0 0).1; rw [h] at this; exact this
  constructor
  · intro _ h2 h3
    by_cases hok : SOk T
    · rw [encT_ok hok] at h3
      have := decT_enc hok hfit
      rw [show (⟨(stB T).toArray⟩ : ByteArray) = s from h3] at this
      exact this
    · rw [encT_no hok] at h2
      exact absurd h2 (by decide)
  · intro hn
    rcases decT_cases s with ⟨T', h1, h2, h3, h4⟩ | h1
    · exfalso
      have h5 := dtT_fwd h2 h3
      rw [h4, h] at h5
      obtain ⟨rfl, h6⟩ := Prod.mk.inj h5
      obtain ⟨rfl, rfl⟩ := Prod.mk.inj h6
      refine hn ⟨?_, by rw [encT_ok h2], by rw [encT_ok h2]; exact h4⟩
      have : s.size = (stB T).length := by rw [← h4]; exact List.size_toArray
      rw [this]; simp [W.endE]
    · exact h1
theorem wpList_store_sl {P : Program} {ops : Array Oper} {rest : List Oper} {o : Oper} {a : Act} {w : World} {Q : Exit → Act → World → Prop} (hgd : o.guard = none) (ty : TypeId) (x y : Operand) (ho : o.op = .store ty x y) (hd : o.dst = none) (b k : Nat) (ao : Option Addr) (n c : Nat) (hx : a.eval x = .pointer (some ⟨b, k, none⟩)) (hy : a.eval y = .slice ao n c)
    (ht : w.there b k 1) (hi : (P.info? ty).map (·.size) = some 1) (h : ∀ w', Hid (w' = w.setCell ⟨b, k, none⟩ (.slice ao n c)) → wpList P ops Q rest a w') : wpList P ops Q (o :: rest) a w := by
  refine wpList_plain hgd fun K hK => ?_
  exact wp_store_sl ty x y ho hd b k ao n c hx hy ht hi (hK _ _ (h _ (hide rfl)))
set_option maxRecDepth 100000 in
set_option maxHeartbeats 8000000 in
theorem rTakeT (a : Nat) (s : ByteArray) (p : Nat) (e : Int) (u : World) (h : W.Rd u a s p e) : Calls Try.prog 76 #[.pointer (some ⟨a, 0, none⟩)] u fun y u' => ∃ x n m, y = .returned (Sv.v x n m) ∧ n = (dtT s p e).1.seen.length ∧ m = (dtT s p e).1.sibs.length ∧ OwnT u' u.heap.size (dtT s p e).1 x ∧ W.Rt u u' a s (dtT s p e).2.1 (dtT s p e).2.2 := by
  obtain ⟨N, hN⟩ : ∃ N, N = u.heap.size := ⟨_, rfl⟩
  have HN := hide hN
  have HR := hide h
  have HAN := hide h.lt
  have HVT : Hid (∀ w : World, W.Rd w a s p e → Calls Try.prog 112 #[.pointer (some ⟨a, 0, none⟩)] w fun x w' => ∃ ao n c, x = .returned (.slice ao n c) ∧ n = (takeL s p e).length ∧ Tk w w' w.heap.size a s (tkV s p e).2.1 (takeE s p e) (takeL s p e) ao c) := fun w hw => (rTake a s p e w hw).mono fun x w' hh => by
    obtain ⟨ao, c, h1, h2⟩ := hh
    exact ⟨ao, _, c, h1, rfl, h2⟩
  have HTT : Hid (dtT s p e = (⟨takeL s p e, (dtXs s (W.uintS s (tkV s p e).2.1 (takeE s p e) 64).1 (W.uintS s (tkV s p e).2.1 (takeE s p e) 64).2.1 (W.uintS s (tkV s p e).2.1 (takeE s p e) 64).2.2).1⟩, (dtXs s (W.uintS s (tkV s p e).2.1 (takeE s p e) 64).1 (W.uintS s (tkV s p e).2.1 (takeE s p e) 64).2.1 (W.uintS s (tkV s p e).2.1 (takeE s p e) 64).2.2).2)) := rfl
  generalize dtT s p e = TT at *
  generalize takeL s p e = L at *
  generalize takeE s p e = E at *
  generalize (tkV s p e).2.1 = q at *
  obtain ⟨n0, p0, e0, h1⟩ : ∃ n0 p0 e0, W.uintS s q E 64 = (n0, p0, e0) := ⟨_, _, _, rfl⟩
  have hn0 : n0 ≤ 64 := by have := uintS_le s q E 64; rw [h1] at this; exact this
  rw [h1] at HTT
  have HTT : Hid (TT = (⟨L, (dtXs s n0 p0 e0).1⟩, (dtXs s n0 p0 e0).2)) := HTT
  have HU1 : Hid (∀ w : World, W.Rd w a s q E → Calls Try.prog 113 #[.pointer (some ⟨a, 0, none⟩), .int .u64 64] w fun y w' => y = .returned (.int .u64 (n0 : Int)) ∧ W.Rt w w' a s p0 e0) := fun w hw => by have := W.mUint a s q E 64 w hw; rw [h1] at this; exact this
  have HL0 := hide hn0
  rw [← hN]
  clear hN h h1
  go_enter Try.func76, Try.ntmps76
  go_wp2_with (first
    | ((with_reducible refine wpList_alloc_state (by rfl) (by rfl) (some 2) (by rfl) N (unhide HN) ?_); intro W1 HX1 HB1 HS1; simp only [Act.put, List.setIfInBounds_toArray, List.set_cons_zero, List.set_cons_succ]; have HR1 := hide (Rd.below (unhide HR) (by rw [← unhide HN]; exact unhide HB1)))
    | (go_at_call 112; refine (unhide HVT W1 (unhide HR1)).mono ?_; rintro y W2 ⟨ta, nt, tc, rfl, h1, h2⟩; have HNT := hide h1; have HT2 := hide h2; clear h1 h2; obtain ⟨M, hM⟩ : ∃ k, k = W2.heap.size := ⟨_, rfl⟩; have HM := hide hM; clear hM)
    | ((with_reducible refine wpList_alloc_state (by rfl) (by rfl) (some 3) (by rfl) M (unhide HM) ?_); intro W3 HX3 HB3 HS3; simp only [Act.put, List.setIfInBounds_toArray, List.set_cons_zero, List.set_cons_succ])
    | ((with_reducible refine wpList_store_state (by rfl) (.tmp 3) (.tmp 12) (by rfl) M ⟨ta, tc, none, 0⟩ nt 0 (by with_unfolding_all rfl) (by with_unfolding_all rfl) Sv.none 0 0 (unhide HX3) ?_); intro W4 HX4 HE4; simp only [Act.put]; have HB4 : Hid (Below W2.heap.size W2 W4) := (by rw [unhide HE4, ← unhide HM]; exact belowRow (unhide HB3) (Nat.le_refl _) _); have HS4 : Hid (W4.heap.size = M + 1) := (by rw [unhide HE4]; exact (by simp [World.setRow] : (W3.setRow M _).heap.size = W3.heap.size).trans (unhide HS3)))
    | (go_at_call 113; refine (unhide HU1 W4 (Rd.below (unhide HT2).rd (unhide HB4))).mono ?_; rintro y W5 ⟨rfl, hr⟩; have HRT5 := hide hr; clear hr)
    | fail)
  have HNM : Hid (N < M) := by
    rw [unhide HM]
    have h1 := (unhide HT2).upd.size
    rw [unhide HS1] at h1
    exact Nat.lt_of_lt_of_le (Nat.lt_succ_self _) h1
  have HA4 : Hid (a < W4.heap.size) := by rw [unhide HS4]; have := unhide HAN; have := unhide HN; have := unhide HNM; show a < M + 1; omega
  have HM4 : Hid (M < W4.heap.size) := by rw [unhide HS4]; exact Nat.lt_succ_self _
  have HMA : Hid (M ≠ a) := by have := unhide HAN; have := unhide HN; have := unhide HNM; show M ≠ a; omega
  have HNA : Hid (N ≠ a) := by have := unhide HAN; have := unhide HN; show N ≠ a; omega
  have HT5 : Hid (Ts W4 W5 a M s p0 e0 ta tc nt [] none 0 0) := (⟨Rd.below (unhide HT2).rd (unhide HB4), W.Upd.refl _ _ _, OwnS.nil _ _, rfl, unhide HX4⟩ : Ts W4 W4 a M s q E ta tc nt [] none 0 0).step (unhide HRT5) (unhide HA4) (unhide HM4) (unhide HMA)
  have HD4 : Hid (OwnD W4 W1.heap.size L ta tc) := (unhide HT2).own.below (unhide HB4)
  have HDM : Hid (∀ g, (Value.slice ta L.length tc).ownBlock = some g → g ≠ M ∧ g ≠ a ∧ g < W4.heap.size ∧ N < g) := fun g hg => by
    have h1 := World.ownsRow.lt (unhide HT2).own g hg
    rw [← unhide HM, unhide HS1] at h1
    have := unhide HAN; have := unhide HN
    rw [unhide HS4]
    omega
  have HX1b : Hid (W4.heap[N]? = some (stRow Sv.none 0 0)) := by
    refine (((unhide HB4).block N (by rw [← unhide HM]; exact unhide HNM)).trans ?_)
    refine ((unhide HT2).upd.block N (by rw [unhide HS1]; exact Nat.lt_succ_self _) (unhide HNA) (unhide HNA)).trans (unhide HX1)
  have HUPD : Hid (W.Upd u W4 a a) := by
    have h1 : W.Upd u W1 a a := ⟨(unhide HB1).os, (unhide HB1).tape, (unhide HB1).output, (unhide HB1).size, fun k hk _ _ => (unhide HB1).block k (by rw [unhide HN]; exact hk)⟩
    exact Upd.belw (h1.trans (unhide HT2).upd (.inl rfl)) (unhide HB4)
  have HN4 : Hid (N < W4.heap.size) := by rw [unhide HS4]; have := unhide HNM; show N < M + 1; omega
  have HN1s : Hid (W1.heap.size = N + 1) := HS1
  have h64 : (n0 : Int) ≤ 64 := by omega
  clear HX1 HB1 HS1 HR1 HX3 HB3 HS3 HE4 HX4 HB4 HT2 HRT5 HVT HU1 HR hn0
  go_loopw [5] (fun s5 wr => ∃ (acc : List Sb) (xo : Option Addr) (m i k c p1 : Nat) (e1 : Int), s5 = .int .u64 (i : Int) ∧ Hid (i + k = n0) ∧ Hid (acc.length = i) ∧ Hid (Ts W4 wr a M s p1 e1 ta tc nt acc xo c m) ∧ Hid (TT = (⟨L, acc ++ (dtXs s k p1 e1).1⟩, (dtXs s k p1 e1).2))) (fun s5 _ => n0 - (intOf s5).toNat)
  case atStart => exact ⟨[], none, 0, 0, n0, 0, p0, e0, rfl, hide (Nat.zero_add _), rfl, HT5, HTT⟩
  case round =>
    clear HT5 HTT
    obtain ⟨acc, xo, m, i, k, c, p1, e1, rfl, HIK, HAI, HI, HT⟩ := hrel
    cases k with
    | zero =>
      have HTE : Hid (TT = (⟨L, acc⟩, p1, e1)) := by rw [unhide HT, dtXs_zero, List.append_nil]; exact rfl
      have hni : ¬ (i : Int) < (n0 : Int) := by have := unhide HIK; omega
      obtain ⟨z0, z1⟩ := st_cells (unhide HI).box
      have HX2 : Hid (wr.heap[N]? = some (stRow Sv.none 0 0)) := ((unhide HI).upd.block N (unhide HN4) (unhide HNA) (by have := unhide HNM; omega)).trans (unhide HX1b)
      go_wp2_with (first
        | ((with_reducible refine wpList_store_state (by rfl) (.tmp 2) (.tmp 41) (by rfl) N ⟨ta, tc, xo, c⟩ nt m (by with_unfolding_all rfl) (by with_unfolding_all rfl) Sv.none 0 0 (unhide HX2) ?_); intro V1 HV1 HEV; simp only [Act.put])
        | fail)
      have HOD : Hid (OwnD V1 N L ta tc) := by
        rw [unhide HEV]
        refine own_keep (own_down (unhide HD4) (by rw [unhide HN1s]; exact Nat.le_succ _)) fun g hg => ?_
        have h1 := unhide HDM g hg
        exact (heapRow_other _ _ _ _ (by omega)).trans ((unhide HI).upd.block g h1.2.2.1 h1.2.1 h1.1)
      have HOS : Hid (OwnS V1 N acc xo c) := by
        rw [unhide HEV]
        refine own_keep (own_down (unhide HI).sibs (Nat.le_of_lt (unhide HN4))) fun g hg => ?_
        have h1 := (World.ownsRow.lt (unhide HI).sibs g hg).1
        have := unhide HN4
        exact heapRow_other _ _ _ _ (by omega)
      have HRV : Hid (W.Rt u V1 a s p1 e1) := by
        rw [unhide HEV]
        refine ⟨(unhide HI).rd.same (by simp [World.setRow]) (heapRow_other _ _ _ _ (fun q => unhide HNA q.symm)), (unhide HI).upd.os.trans (unhide HUPD).os, (unhide HI).upd.tape.trans (unhide HUPD).tape, (unhide HI).upd.output.trans (unhide HUPD).output, by simpa [World.setRow] using Nat.le_trans (unhide HUPD).size (unhide HI).upd.size, fun k hk g1 g2 => ?_⟩
        have hkN : k < N := by rw [unhide HN]; exact hk
        have := unhide HNM
        have := unhide HN4
        exact (heapRow_other _ _ _ _ (by omega)).trans (((unhide HI).upd.block k (by omega) g1 (by omega)).trans ((unhide HUPD).block k hk g1 g2))
      refine bodyPost_ret (results_cell rfl _ _ N 31 #[.slice ta nt tc, .slice xo m c] (0, 0) _ rfl (unhide HV1) stateUnd rfl stateInfo) rfl ?_
      exact ⟨⟨ta, tc, xo, c⟩, nt, m, rfl, by rw [unhide HTE]; exact unhide HNT, by rw [unhide HTE]; exact (unhide HI).em, by rw [unhide HTE]; exact ⟨unhide HOD, unhide HOS⟩, by rw [unhide HTE]; exact unhide HRV⟩
    | succ k =>
      have hni : (i : Int) < (n0 : Int) := by have := unhide HIK; omega
      have hadd : IntKind.u64.wrap ((i : Int) + 1) = ((i + 1 : Nat) : Int) := by rw [IntKind.wrap_u64]; omega
      have HTS := hide (dtXs_succ s k p1 e1)
      obtain ⟨xa, px, ex, h1⟩ : ∃ xa px ex, W.uintS s p1 e1 4294967295 = (xa, px, ex) := ⟨_, _, _, rfl⟩
      obtain ⟨xc, py, ey, h2⟩ : ∃ xc py ey, W.uintS s px ex 1099511627776 = (xc, py, ey) := ⟨_, _, _, rfl⟩
      obtain ⟨xm, pm, em, h3⟩ : ∃ xm pm em, W.fixS s py ey 1 = (xm, pm, em) := ⟨_, _, _, rfl⟩
      obtain ⟨tv, pt, et, h4⟩ : ∃ tv pt et, W.textS s pm em 40 = (tv, pt, et) := ⟨_, _, _, rfl⟩
      rw [dtX_eq h1 h2 h3 h4] at HTS
      have HTS : Hid (dtXs s (k + 1) p1 e1 = (⟨xa, xc, decide (xm % 256 = 1), tv⟩ :: (dtXs s k pt et).1, (dtXs s k pt et).2)) := HTS
      have HTE : Hid (TT = (⟨L, acc ++ [⟨xa, xc, decide (xm % 256 = 1), tv⟩] ++ (dtXs s k pt et).1⟩, (dtXs s k pt et).2)) := by
        rw [unhide HT, unhide HTS, List.append_assoc]; exact rfl
      have hxa : xa ≤ 4294967295 := by have := uintS_le s p1 e1 4294967295; rw [h1] at this; exact this
      have hwx : IntKind.u32.wrap (xa : Int) = (xa : Int) := by rw [IntKind.wrap_u32]; omega
      have HU1 : Hid (∀ w : World, W.Rd w a s p1 e1 → Calls Try.prog 113 #[.pointer (some ⟨a, 0, none⟩), .int .u64 4294967295] w fun y w' => y = .returned (.int .u64 (xa : Int)) ∧ W.Rt w w' a s px ex) := fun w hw => by have := W.mUint a s p1 e1 4294967295 w hw; rw [h1] at this; exact this
      have HU2 : Hid (∀ w : World, W.Rd w a s px ex → Calls Try.prog 113 #[.pointer (some ⟨a, 0, none⟩), .int .u64 1099511627776] w fun y w' => y = .returned (.int .u64 (xc : Int)) ∧ W.Rt w w' a s py ey) := fun w hw => by have := W.mUint a s px ex 1099511627776 w hw; rw [h2] at this; exact this
      have HBY : Hid (∀ w : World, W.Rd w a s py ey → Calls Try.prog 114 #[.pointer (some ⟨a, 0, none⟩)] w fun y w' => y = .returned (.int .u8 ((xm % 256 : Nat) : Int)) ∧ W.Rt w w' a s pm em) := fun w hw => by have := W.mByte a s py ey w hw; rw [h3] at this; exact this
      have HTX : Hid (∀ w : World, W.Rd w a s pm em → Calls Try.prog 115 #[.pointer (some ⟨a, 0, none⟩), .int .i64 40] w fun y w' => y = .returned (.string tv) ∧ W.Rt w w' a s pt et) := fun w hw => by have := W.mText a s pm em 40 w hw (by decide); rw [h4] at this; exact this
      have hmk : xm % 256 < 256 := Nat.mod_lt _ (by decide)
      clear HT HTS h1 h2 h3 h4 hxa
      generalize xm % 256 = g at *
      have hLA : acc.length + 1 ≤ 64 := by have := unhide HAI; have := unhide HIK; have : n0 ≤ 64 := (unhide HL0); omega
      have HLA := hide hLA
      clear hLA hmk
      by_cases hg : g = 1
      · subst hg
        rw [decide_eq_true (show (1 : Nat) = 1 by rfl)] at HTE
        generalize hX0 : (⟨xa, xc, true, tv⟩ : Sb) = X0v at HTE
        have HX0 := hide hX0
        clear hX0
        go_wp2_with (first
          | (go_at_call_of 113 (Value.int IntKind.u64 4294967295); refine (unhide HU1 wr (unhide HI).rd).mono ?_; rintro y V1 ⟨rfl, hr⟩; have HI1 := hide ((unhide HI).step hr (unhide HA4) (unhide HM4) (unhide HMA)); clear hr)
          | (go_at_call 113; refine (unhide HU2 V1 (unhide HI1).rd).mono ?_; rintro y V2 ⟨rfl, hr⟩; have HI2 := hide ((unhide HI1).step hr (unhide HA4) (unhide HM4) (unhide HMA)); clear hr)
          | (go_at_call 114; refine (unhide HBY V2 (unhide HI2).rd).mono ?_; rintro y V3 ⟨rfl, hr⟩; have HI3 := hide ((unhide HI2).step hr (unhide HA4) (unhide HM4) (unhide HMA)); clear hr)
          | (go_at_call 115; refine (unhide HTX V3 (unhide HI3).rd).mono ?_; rintro y V4 ⟨rfl, hr⟩; have HI4 := hide ((unhide HI3).step hr (unhide HA4) (unhide HM4) (unhide HMA)); clear hr; obtain ⟨z0, z1⟩ := st_cells (unhide HI4).box; have HI5 := hide ((unhide HI4).belw ((Below.refl _ _).alloc (Nat.le_refl _) (.cells #[.int .u32 (xa : Int), .int .u64 (xc : Int), .bool true, .string tv] 69))); have HD5 := hide (Dw.one V4 ⟨xa, xc, true, tv⟩ 69))
          | (at_builtin; refine wpList_putS (by rfl) (.tmp 29) (.tmp 38) (by rfl) (some 39) (by rfl) W4.heap.size acc [⟨xa, xc, true, tv⟩] m 1 (unhide HI5).em rfl xo (some ⟨V4.heap.size, 0, none⟩) c 1 (by rfl) (by rfl) (unhide HI5).sibs (unhide HD5) (by have := unhide HLA; simp only [List.length_cons, List.length_nil]; omega) (unhide HI5).upd.size ?_; intro x7 n7 c7 V7 HN7 HO7 _ HBE7 _; simp only [Act.put, List.setIfInBounds_toArray, List.set_cons_zero, List.set_cons_succ]; have HM7 : Hid (V7.heap[M]? = some (stRow ⟨ta, tc, xo, c⟩ nt m)) := ((unhide HBE7).block M (unhide HM4)).trans (unhide HI5).box; obtain ⟨y0, y1⟩ := st_cells (unhide HM7); have yf := row_free (unhide HM7) 1)
          | fail)
        have HI8 := hide ((unhide HI5).grow (unhide HBE7) (unhide HO7) (unhide HN7) (unhide HA4) (unhide HM4) (unhide HMA))
        go_roundw
        case rel => exact ⟨acc ++ [⟨xa, xc, true, tv⟩], x7, n7, i + 1, k, c7, pt, et, rfl, hide (by have := unhide HIK; omega), hide (by have h1 := unhide HAI; rw [List.length_append]; have h3 : [(⟨xa, xc, true, tv⟩ : Sb)].length = 1 := rfl; omega), HI8, by rw [unhide HX0]; exact HTE⟩
        case measure => have := unhide HIK; simp [intOf]; omega
      · rw [decide_eq_false hg] at HTE
        have hg1 : ((g : Int) == 1) = false := by simp; omega
        have hg3 : ¬ (g : Int) = 1 := by omega
        generalize hX0 : (⟨xa, xc, false, tv⟩ : Sb) = X0v at HTE
        have HX0 := hide hX0
        clear hX0
        go_wp2_with (first
          | (go_at_call_of 113 (Value.int IntKind.u64 4294967295); refine (unhide HU1 wr (unhide HI).rd).mono ?_; rintro y V1 ⟨rfl, hr⟩; have HI1 := hide ((unhide HI).step hr (unhide HA4) (unhide HM4) (unhide HMA)); clear hr)
          | (go_at_call 113; refine (unhide HU2 V1 (unhide HI1).rd).mono ?_; rintro y V2 ⟨rfl, hr⟩; have HI2 := hide ((unhide HI1).step hr (unhide HA4) (unhide HM4) (unhide HMA)); clear hr)
          | (go_at_call 114; refine (unhide HBY V2 (unhide HI2).rd).mono ?_; rintro y V3 ⟨rfl, hr⟩; have HI3 := hide ((unhide HI2).step hr (unhide HA4) (unhide HM4) (unhide HMA)); clear hr)
          | (go_at_call 115; refine (unhide HTX V3 (unhide HI3).rd).mono ?_; rintro y V4 ⟨rfl, hr⟩; have HI4 := hide ((unhide HI3).step hr (unhide HA4) (unhide HM4) (unhide HMA)); clear hr; obtain ⟨z0, z1⟩ := st_cells (unhide HI4).box; have HI5 := hide ((unhide HI4).belw ((Below.refl _ _).alloc (Nat.le_refl _) (.cells #[.int .u32 (xa : Int), .int .u64 (xc : Int), .bool false, .string tv] 69))); have HD5 := hide (Dw.one V4 ⟨xa, xc, false, tv⟩ 69))
          | (at_builtin; refine wpList_putS (by rfl) (.tmp 29) (.tmp 38) (by rfl) (some 39) (by rfl) W4.heap.size acc [⟨xa, xc, false, tv⟩] m 1 (unhide HI5).em rfl xo (some ⟨V4.heap.size, 0, none⟩) c 1 (by rfl) (by rfl) (unhide HI5).sibs (unhide HD5) (by have := unhide HLA; simp only [List.length_cons, List.length_nil]; omega) (unhide HI5).upd.size ?_; intro x7 n7 c7 V7 HN7 HO7 _ HBE7 _; simp only [Act.put, List.setIfInBounds_toArray, List.set_cons_zero, List.set_cons_succ]; have HM7 : Hid (V7.heap[M]? = some (stRow ⟨ta, tc, xo, c⟩ nt m)) := ((unhide HBE7).block M (unhide HM4)).trans (unhide HI5).box; obtain ⟨y0, y1⟩ := st_cells (unhide HM7); have yf := row_free (unhide HM7) 1)
          | fail)
        have HI8 := hide ((unhide HI5).grow (unhide HBE7) (unhide HO7) (unhide HN7) (unhide HA4) (unhide HM4) (unhide HMA))
        go_roundw
        case rel => exact ⟨acc ++ [⟨xa, xc, false, tv⟩], x7, n7, i + 1, k, c7, pt, et, rfl, hide (by have := unhide HIK; omega), hide (by have h1 := unhide HAI; rw [List.length_append]; have h3 : [(⟨xa, xc, false, tv⟩ : Sb)].length = 1 := rfl; omega), HI8, by rw [unhide HX0]; exact HTE⟩
        case measure => have := unhide HIK; simp [intOf]; omega
end Go.Proofs.Ytkcbljmjhlnjpaa
