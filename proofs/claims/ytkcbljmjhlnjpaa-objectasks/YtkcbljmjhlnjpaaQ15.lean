/- Put together out of Yv, Yx, Yy. -/
import Derived.Test.YtkcbljmjhlnjpaaQ14
import Derived.Test.YtkcbljmjhlnjpaaQ13
namespace Go.Proofs.Ytkcbljmjhlnjpaa
open Go.RowKit Go.Lib
theorem entTS : ∀ args (w : World), (callFunc 119 args).run Try.prog w = .ok (.enter 119 args) w := by
  intro args w
  go_simp
/-- siblings, as they are taken -/
def tkXs (s : ByteArray) : Nat → Nat → Int → List Sb × Nat × Int
  | 0, p, e => ([], p, e)
  | n + 1, p, e => if e ≠ 0 then ([], p, e) else ((tkX s p e).1 :: (tkXs s n (tkX s p e).2.1 (tkX s p e).2.2).1, (tkXs s n (tkX s p e).2.1 (tkX s p e).2.2).2)
theorem tkXs_zero (s : ByteArray) (p : Nat) (e : Int) : tkXs s 0 p e = ([], p, e) := rfl
theorem tkXs_err (s : ByteArray) (n p : Nat) {e : Int} (h : e ≠ 0) : tkXs s n p e = ([], p, e) := by
  cases n with
  | zero => rfl
  | succ n => rw [tkXs, if_pos h]
theorem tkXs_succ (s : ByteArray) (n p : Nat) : tkXs s (n + 1) p 0 = ((tkX s p 0).1 :: (tkXs s n (tkX s p 0).2.1 (tkX s p 0).2.2).1, (tkXs s n (tkX s p 0).2.1 (tkX s p 0).2.2).2) := by rw [tkXs, if_neg (fun h => h rfl)]
theorem tkXs_fit (s : ByteArray) : ∀ (n p : Nat) (e : Int), FitS (tkXs s n p e).1 ∧ (tkXs s n p e).1.length ≤ n
  | 0, p, e => ⟨fun x hx => (by cases hx), Nat.le_refl _⟩
  | n + 1, p, e => by
    by_cases h : e = 0
    · subst h
      rw [tkXs_succ]
      have := tkXs_fit s n (tkX s p 0).2.1 (tkX s p 0).2.2
      refine ⟨fun x hx => ?_, by simp only [List.length_cons]; omega⟩
      rcases List.mem_cons.1 hx with rfl | hx
      · exact tkX_fit s p 0
      · exact this.1 x hx
    · rw [tkXs_err s _ _ h]; exact ⟨fun x hx => (by cases hx), Nat.zero_le _⟩
/-- a state, as it is taken -/
noncomputable def tkT (s : ByteArray) (p : Nat) (e : Int) : St × Nat × Int :=
  (⟨takeL s p e, (tkXs s (W.uintS s (tkV s p e).2.1 (takeE s p e) 64).1 (W.uintS s (tkV s p e).2.1 (takeE s p e) 64).2.1 (W.uintS s (tkV s p e).2.1 (takeE s p e) 64).2.2).1⟩,
    (tkXs s (W.uintS s (tkV s p e).2.1 (takeE s p e) 64).1 (W.uintS s (tkV s p e).2.1 (takeE s p e) 64).2.1 (W.uintS s (tkV s p e).2.1 (takeE s p e) 64).2.2).2)
theorem takeL_fits (s : ByteArray) (p : Nat) (e : Int) : Fits (takeL s p e) ∧ (takeL s p e).length ≤ 64 := by
  unfold takeL; split
  · exact tkV_fits s p e
  · exact ⟨fun d hd => (by cases hd), Nat.zero_le _⟩
theorem tkT_fit (s : ByteArray) (p : Nat) (e : Int) : FitT (tkT s p e).1 ∧ (tkT s p e).1.seen.length ≤ 64 ∧ (tkT s p e).1.sibs.length ≤ 64 :=
  ⟨⟨(takeL_fits s p e).1, (tkXs_fit s _ _ _).1⟩, (takeL_fits s p e).2, Nat.le_trans (tkXs_fit s _ _ _).2 (uintS_le s _ _ 64)⟩
theorem row_free {w : World} {M : Nat} {cs : Array Value} {t : TypeId} (h : w.heap[M]? = some (.cells cs t (0, 0))) (k : Nat) : w.frozen? ⟨M, k, none⟩ = false := by simp [World.frozen?, h]
theorem made_there {w : World} {M k : Nat} {cs : Array Value} {t : TypeId} (h : w.heap[M]? = some (.cells cs t (0, 0))) (hk : k < cs.size) : w.there M k 1 := fun j hj => by
  obtain rfl : j = 0 := by omega
  exact ⟨by simp [World.cell?, h, hk], row_free h _⟩
theorem wp_store_sl {P : Program} {o : Oper} {a : Act} {w : World} {K : Act → World → Prop} {Q : Exit → Act → World → Prop} (ty : TypeId) (x y : Operand) (ho : o.op = .store ty x y) (hd : o.dst = none) (b k : Nat) (ao : Option Addr) (n c : Nat) (hx : a.eval x = .pointer (some ⟨b, k, none⟩)) (hy : a.eval y = .slice ao n c)
    (ht : w.there b k 1) (hi : (P.info? ty).map (·.size) = some 1) (h : K a (w.setCell ⟨b, k, none⟩ (.slice ao n c))) : o.wp P a w K Q := by
  have h1 : (storeVar ty ⟨b, k, none⟩ (.slice ao n c)).run P w = .ok () (w.setCells b k [.slice ao n c]) := run_storeVar_mid (P := P) w b k ty #[.slice ao n c] ht hi (by simp [Value.oneCell'])
  unfold Oper.wp execOp
  simp only [ho, hx, hy, Instr.storeAt, Instr.sureAddr, Sem.run_bind, Sem.run_pure, Result.andThen_ok, h1]
  exact (show K (a.put o.dst undef) _ by rw [hd]; exact h)
/-- while siblings are taken into the variable at M -/
structure Ts (B w : World) (a M : Nat) (s : ByteArray) (p : Nat) (e : Int) (ta : Option Addr) (tc nt : Nat) (acc : List Sb) (xo : Option Addr) (c m : Nat) : Prop where
  rd : W.Rd w a s p e
  upd : W.Upd B w a M
  sibs : OwnS w B.heap.size acc xo c
  em : m = acc.length
  box : w.heap[M]? = some (stRow ⟨ta, tc, xo, c⟩ nt m)
section
variable {B w w' : World} {a M : Nat} {s : ByteArray} {p : Nat} {e : Int} {ta : Option Addr} {tc nt : Nat} {acc : List Sb} {xo : Option Addr} {c m : Nat}
theorem Ts.step {p' : Nat} {e' : Int} (h : Ts B w a M s p e ta tc nt acc xo c m) (hr : W.Rt w w' a s p' e') (ha : a < B.heap.size) (hm : M < B.heap.size) (hne : M ≠ a) : Ts B w' a M s p' e' ta tc nt acc xo c m := by
  have hbk : ∀ k, k < w.heap.size → k ≠ a → w'.heap[k]? = w.heap[k]? := fun k hk hka => hr.2.block k hk hka hka
  refine ⟨hr.1, ⟨hr.2.os.trans h.upd.os, hr.2.tape.trans h.upd.tape, hr.2.output.trans h.upd.output, Nat.le_trans h.upd.size hr.2.size, fun k hk h1 h2 => (hbk k (Nat.lt_of_lt_of_le hk h.upd.size) h1).trans (h.upd.block k hk h1 h2)⟩, own_keep h.sibs fun g hg => ?_, h.em, (hbk M (Nat.lt_of_lt_of_le hm h.upd.size) hne).trans h.box⟩
  have := World.ownsRow.lt h.sibs g hg
  exact hbk g this.2 (by omega)
theorem Ts.belw (h : Ts B w a M s p e ta tc nt acc xo c m) (hb : Below w.heap.size w w') : Ts B w' a M s p e ta tc nt acc xo c m :=
  ⟨Rd.below h.rd hb, ⟨hb.os.trans h.upd.os, hb.tape.trans h.upd.tape, hb.output.trans h.upd.output, Nat.le_trans h.upd.size hb.size, fun k hk h1 h2 => (hb.block k (Nat.lt_of_lt_of_le hk h.upd.size)).trans (h.upd.block k hk h1 h2)⟩, h.sibs.below hb, h.em, box_below h.box hb⟩
theorem Ts.grow {acc' : List Sb} {xo' : Option Addr} {c' m' : Nat} (h : Ts B w a M s p e ta tc nt acc xo c m) (hb : Below B.heap.size w w') (ho : OwnS w' B.heap.size acc' xo' c') (em : m' = acc'.length) (ha : a < B.heap.size) (hm : M < B.heap.size) (hne : M ≠ a) : Ts B (w'.setCell ⟨M, 1, none⟩ (.slice xo' m' c')) a M s p e ta tc nt acc' xo' c' m' := by
  have hb0 := hb.block M hm
  have ho1 : ∀ k, k ≠ M → (w'.setCell ⟨M, 1, none⟩ (.slice xo' m' c')).heap[k]? = w'.heap[k]? := fun k hk => Deep.blk_setCell_other w' ⟨M, 1, none⟩ _ k hk
  have hsz : (w'.setCell ⟨M, 1, none⟩ (.slice xo' m' c')).heap.size = w'.heap.size := by simp [World.setCell]
  refine ⟨?_, ⟨hb.os.trans h.upd.os, hb.tape.trans h.upd.tape, hb.output.trans h.upd.output, ?_, fun k hk h1 h2 => ?_⟩, own_keep ho fun g hg => ho1 g ?_, em, ?_⟩
  · exact h.rd.same (by rw [hsz]; exact hb.size) ((ho1 a (fun q => hne q.symm)).trans (hb.block a ha))
  · rw [hsz]; exact Nat.le_trans h.upd.size hb.size
  · exact (ho1 k h2).trans ((hb.block k hk).trans (h.upd.block k hk h1 h2))
  · have := World.ownsRow.lt ho g hg
    omega
  · have := heapCell_same (hb0.trans h.box) 1 (.slice xo' m' c')
    exact this
end
set_option maxRecDepth 100000 in
set_option maxHeartbeats 8000000 in
theorem dTakeState (a : Nat) (s : ByteArray) (p : Nat) (e : Int) (u : World) (h : W.Rd u a s p e) : Calls Try.prog 79 #[.pointer (some ⟨a, 0, none⟩)] u fun y u' => ∃ x n m, y = .returned (Sv.v x n m) ∧ n = (tkT s p e).1.seen.length ∧ m = (tkT s p e).1.sibs.length ∧ OwnT u' u.heap.size (tkT s p e).1 x ∧ W.Rt u u' a s (tkT s p e).2.1 (tkT s p e).2.2 := by
  have hmix : Try.prog.follows .mixedOrders = true := by kernel_rfl
  obtain ⟨N, hN⟩ : ∃ N, N = u.heap.size := ⟨_, rfl⟩
  have HN := hide hN
  have HR := hide h
  have HAN := hide h.lt
  have HVT : Hid (∀ w : World, W.Rd w a s p e → Calls Try.prog 116 #[.pointer (some ⟨a, 0, none⟩)] w fun x w' => ∃ ao n c, x = .returned (.slice ao n c) ∧ n = (takeL s p e).length ∧ Tk w w' w.heap.size a s (tkV s p e).2.1 (takeE s p e) (takeL s p e) ao c) := fun w hw => (vTake a s p e w hw).mono fun x w' hh => by
    obtain ⟨ao, c, h1, h2⟩ := hh
    exact ⟨ao, _, c, h1, rfl, h2⟩
  have HTT : Hid (tkT s p e = (⟨takeL s p e, (tkXs s (W.uintS s (tkV s p e).2.1 (takeE s p e) 64).1 (W.uintS s (tkV s p e).2.1 (takeE s p e) 64).2.1 (W.uintS s (tkV s p e).2.1 (takeE s p e) 64).2.2).1⟩, (tkXs s (W.uintS s (tkV s p e).2.1 (takeE s p e) 64).1 (W.uintS s (tkV s p e).2.1 (takeE s p e) 64).2.1 (W.uintS s (tkV s p e).2.1 (takeE s p e) 64).2.2).2)) := rfl
  generalize tkT s p e = TT at *
  generalize takeL s p e = L at *
  generalize takeE s p e = E at *
  generalize (tkV s p e).2.1 = q at *
  obtain ⟨n0, p0, e0, h1⟩ : ∃ n0 p0 e0, W.uintS s q E 64 = (n0, p0, e0) := ⟨_, _, _, rfl⟩
  have hn0 : n0 ≤ 64 := by have := uintS_le s q E 64; rw [h1] at this; exact this
  rw [h1] at HTT
  have HTT : Hid (TT = (⟨L, (tkXs s n0 p0 e0).1⟩, (tkXs s n0 p0 e0).2)) := HTT
  have HU1 : Hid (∀ w : World, W.Rd w a s q E → Calls Try.prog 117 #[.pointer (some ⟨a, 0, none⟩), .int .u64 64] w fun y w' => y = .returned (.int .u64 (n0 : Int)) ∧ W.Rt w w' a s p0 e0) := fun w hw => by have := W.rUint a s q E 64 w hw; rw [h1] at this; exact this
  have HE : Hid (∀ (w : World) (p : Nat) (e : Int), W.Rd w a s p e → Calls Try.prog 118 #[.pointer (some ⟨a, 0, none⟩)] w fun x w' => x = .returned (.int .i64 e) ∧ w' = w) := fun w p e h => W.rErr a s p e w h
  have HL0 := hide hn0
  rw [← hN]
  clear hN h h1 hn0
  go_enter Try.func79, Try.ntmps79
  go_wp2_with (first
    | ((with_reducible refine wpList_alloc_state (by rfl) (by rfl) (some 2) (by rfl) N (unhide HN) ?_); intro W1 HX1 HB1 HS1; simp only [Act.put, List.setIfInBounds_toArray, List.set_cons_zero, List.set_cons_succ]; have HR1 := hide (Rd.below (unhide HR) (by rw [← unhide HN]; exact unhide HB1)))
    | (go_at_call 116; refine (unhide HVT W1 (unhide HR1)).mono ?_; rintro y W2 ⟨ta, nt, tc, rfl, h1, h2⟩; have HNT := hide h1; have HT2 := hide h2; clear h1 h2; obtain ⟨M, hM⟩ : ∃ k, k = W2.heap.size := ⟨_, rfl⟩; have HM := hide hM; clear hM)
    | ((with_reducible refine wpList_alloc_state (by rfl) (by rfl) (some 3) (by rfl) M (unhide HM) ?_); intro W3 HX3 HB3 HS3; simp only [Act.put, List.setIfInBounds_toArray, List.set_cons_zero, List.set_cons_succ])
    | ((with_reducible refine wpList_store_state (by rfl) (.tmp 3) (.tmp 7) (by rfl) M ⟨ta, tc, none, 0⟩ nt 0 (by with_unfolding_all rfl) (by with_unfolding_all rfl) Sv.none 0 0 (unhide HX3) ?_); intro W4 HX4 HE4; simp only [Act.put]; have HB4 : Hid (Below W2.heap.size W2 W4) := (by rw [unhide HE4, ← unhide HM]; exact belowRow (unhide HB3) (Nat.le_refl _) _); have HS4 : Hid (W4.heap.size = M + 1) := (by rw [unhide HE4]; exact (by simp [World.setRow] : (W3.setRow M _).heap.size = W3.heap.size).trans (unhide HS3)))
    | (go_at_call 117; refine (unhide HU1 W4 (Rd.below (unhide HT2).rd (unhide HB4))).mono ?_; rintro y W5 ⟨rfl, hr⟩; have HRT5 := hide hr; clear hr)
    | fail)
  have HNM : Hid (N < M) := by
    rw [unhide HM]
    have h1 := (unhide HT2).upd.size
    rw [unhide HS1] at h1
    exact Nat.lt_of_lt_of_le (Nat.lt_succ_self _) h1
  have HA4 : Hid (a < W4.heap.size) := by rw [unhide HS4]; have := unhide HAN; have := unhide HN; have := unhide HNM; show a < M + 1; omega
  have HM4 : Hid (M < W4.heap.size) := by rw [unhide HS4]; exact Nat.lt_succ_self _
  have HMA : Hid (M ≠ a) := by have := unhide HAN; have := unhide HN; have := unhide HNM; show M ≠ a; omega
  have HNA : Hid (N ≠ a) := by have := unhide HAN; have := unhide HN; show N ≠ a; omega
  have HT5 : Hid (Ts W4 W5 a M s p0 e0 ta tc nt [] none 0 0) := (⟨Rd.below (unhide HT2).rd (unhide HB4), W.Upd.refl _ _ _, OwnS.nil _ _, rfl, unhide HX4⟩ : Ts W4 W4 a M s q E ta tc nt [] none 0 0).step (unhide HRT5) (unhide HA4) (unhide HM4) (unhide HMA)
  have HD4 : Hid (OwnD W4 W1.heap.size L ta tc) := (unhide HT2).own.below (unhide HB4)
  have HDM : Hid (∀ g, (Value.slice ta L.length tc).ownBlock = some g → g ≠ M ∧ g ≠ a ∧ g < W4.heap.size ∧ N < g) := fun g hg => by
    have h1 := World.ownsRow.lt (unhide HT2).own g hg
    rw [← unhide HM, unhide HS1] at h1
    have := unhide HAN; have := unhide HN
    rw [unhide HS4]
    omega
  have HX1b : Hid (W4.heap[N]? = some (stRow Sv.none 0 0)) := by
    refine (((unhide HB4).block N (by rw [← unhide HM]; exact unhide HNM)).trans ?_)
    refine ((unhide HT2).upd.block N (by rw [unhide HS1]; exact Nat.lt_succ_self _) (unhide HNA) (unhide HNA)).trans (unhide HX1)
  have HUPD : Hid (W.Upd u W4 a a) := by
    have h1 : W.Upd u W1 a a := ⟨(unhide HB1).os, (unhide HB1).tape, (unhide HB1).output, (unhide HB1).size, fun k hk _ _ => (unhide HB1).block k (by rw [unhide HN]; exact hk)⟩
    exact Upd.belw (h1.trans (unhide HT2).upd (.inl rfl)) (unhide HB4)
  have HN4 : Hid (N < W4.heap.size) := by rw [unhide HS4]; have := unhide HNM; show N < M + 1; omega
  have HN1s : Hid (W1.heap.size = N + 1) := HS1
  clear HX1 HB1 HS1 HR1 HX3 HB3 HS3 HE4 HX4 HB4 HT2 HRT5 HVT HU1 HR
  go_loopw [4] (fun s4 wr => ∃ (acc : List Sb) (xo : Option Addr) (m n c p1 : Nat) (e1 : Int), s4 = .int .u64 (n : Int) ∧ Hid (acc.length + n ≤ 64) ∧ Hid (Ts W4 wr a M s p1 e1 ta tc nt acc xo c m) ∧ Hid (TT = (⟨L, acc ++ (tkXs s n p1 e1).1⟩, (tkXs s n p1 e1).2))) (fun s4 _ => (intOf s4).toNat)
  case atStart => exact ⟨[], none, 0, n0, 0, p0, e0, rfl, hide (by simp only [List.length_nil, Nat.zero_add]; exact unhide HL0), HT5, HTT⟩
  case round =>
    clear HT5 HTT HL0
    obtain ⟨acc, xo, m, n, c, p1, e1, rfl, HLN, HI, HT⟩ := hrel
    have hni : (n : Int) ≤ 64 := by have := unhide HLN; omega
    cases n with
    | zero =>
      have HTE : Hid (TT = (⟨L, acc⟩, p1, e1)) := by rw [unhide HT, tkXs_zero, List.append_nil]; exact rfl
      obtain ⟨z0, z1⟩ := st_cells (unhide HI).box
      have HX2 : Hid (wr.heap[N]? = some (stRow Sv.none 0 0)) := ((unhide HI).upd.block N (unhide HN4) (unhide HNA) (by have := unhide HNM; omega)).trans (unhide HX1b)
      go_wp2_with (first
        | ((with_reducible refine wpList_store_state (by rfl) (.tmp 2) (.tmp 26) (by rfl) N ⟨ta, tc, xo, c⟩ nt m (by with_unfolding_all rfl) (by with_unfolding_all rfl) Sv.none 0 0 (unhide HX2) ?_); intro V1 HV1 HEV; simp only [Act.put])
        | fail)
      have HOD : Hid (OwnD V1 N L ta tc) := by
        rw [unhide HEV]
        refine own_keep (own_down (unhide HD4) (by rw [unhide HN1s]; exact Nat.le_succ _)) fun g hg => ?_
        have h1 := unhide HDM g hg
        exact (heapRow_other _ _ _ _ (by omega)).trans ((unhide HI).upd.block g h1.2.2.1 h1.2.1 h1.1)
      have HOS : Hid (OwnS V1 N acc xo c) := by
        rw [unhide HEV]
        refine own_keep (own_down (unhide HI).sibs (Nat.le_of_lt (unhide HN4))) fun g hg => ?_
        have h1 := (World.ownsRow.lt (unhide HI).sibs g hg).1
        have := unhide HN4
        exact heapRow_other _ _ _ _ (by omega)
      have HRV : Hid (W.Rt u V1 a s p1 e1) := by
        rw [unhide HEV]
        refine ⟨(unhide HI).rd.same (by simp [World.setRow]) (heapRow_other _ _ _ _ (fun q => unhide HNA q.symm)), (unhide HI).upd.os.trans (unhide HUPD).os, (unhide HI).upd.tape.trans (unhide HUPD).tape, (unhide HI).upd.output.trans (unhide HUPD).output, by simpa [World.setRow] using Nat.le_trans (unhide HUPD).size (unhide HI).upd.size, fun k hk g1 g2 => ?_⟩
        have hkN : k < N := by rw [unhide HN]; exact hk
        have := unhide HNM
        have := unhide HN4
        exact (heapRow_other _ _ _ _ (by omega)).trans (((unhide HI).upd.block k (by omega) g1 (by omega)).trans ((unhide HUPD).block k hk g1 g2))
      refine bodyPost_ret (results_cell rfl _ _ N 31 #[.slice ta nt tc, .slice xo m c] (0, 0) _ rfl (unhide HV1) stateUnd rfl stateInfo) rfl ?_
      exact ⟨⟨ta, tc, xo, c⟩, nt, m, rfl, by rw [unhide HTE]; exact unhide HNT, by rw [unhide HTE]; exact (unhide HI).em, by rw [unhide HTE]; exact ⟨unhide HOD, unhide HOS⟩, by rw [unhide HTE]; exact unhide HRV⟩
    | succ n =>
      have HEE := hide (unhide HE wr p1 e1 (unhide HI).rd)
      obtain ⟨n1, hn1⟩ : ∃ n1, n1 = n + 1 := ⟨_, rfl⟩
      rw [← hn1] at hni HLN HT ⊢
      have hnp : (0 : Int) < (n1 : Int) := by omega
      by_cases he : e1 = 0
      · subst he
        have HTS := hide (tkXs_succ s n p1)
        rw [← hn1] at HTS
        have HX : Hid (∀ w : World, W.Rd w a s p1 0 → Calls Try.prog 119 #[.pointer (some ⟨a, 0, none⟩)] w fun y w' => ∃ v, y = .returned v ∧ v = (tkX s p1 0).1.v ∧ W.Rt w w' a s (tkX s p1 0).2.1 (tkX s p1 0).2.2) := fun w hw => asV (dTakeSib a s p1 0 w hw)
        generalize tkX s p1 0 = tx at *
        obtain ⟨x, px, ex⟩ := tx
        have HX : Hid (∀ w : World, W.Rd w a s p1 0 → Calls Try.prog 119 #[.pointer (some ⟨a, 0, none⟩)] w fun y w' => ∃ v, y = .returned v ∧ v = x.v ∧ W.Rt w w' a s px ex) := HX
        have HTS : Hid (tkXs s n1 p1 0 = (x :: (tkXs s n px ex).1, (tkXs s n px ex).2)) := HTS
        have HTE : Hid (TT = (⟨L, acc ++ [x] ++ (tkXs s n px ex).1⟩, (tkXs s n px ex).2)) := by
          rw [unhide HT, unhide HTS, List.append_assoc]; exact rfl
        have hsub2 : IntKind.u64.wrap ((n1 : Int) - 1) = (n : Int) := by rw [IntKind.wrap_u64]; omega
        have HN1 := hide hn1
        clear hn1 HT HTS
        go_wp2_with (first
          | (go_at_call 118; refine (unhide HEE).mono ?_; rintro y w1 ⟨rfl, hw1⟩; obtain rfl := hw1.symm; clear hw1)
          | fail)
        have hC : ∀ W : World, W.heap[M]? = some (stRow ⟨ta, tc, xo, c⟩ nt m) → W.cell? ⟨M, 1, none⟩ = some (.slice xo m c) := fun W hW => (st_cells hW).2
        refine wp_region_last (fun W => W.heap[M]? = some (stRow ⟨ta, tc, xo, c⟩ nt m)) 7 hmix (unhide HI).box fun hS => ?_
        have HI0 : Hid (Ts W4 wr.drew a M s p1 0 ta tc nt acc xo c m) := (unhide HI).belw (belowDrew (Below.refl _ _))
        generalize wr.drew = X0 at hS HI0 ⊢
        refine wpAnyL_take 0 19 (.pointer (some ⟨M, 1, none⟩)) [] rfl rfl (by kernel_rfl) (by kernel_rfl) (by kernel_rfl) (by kernel_rfl) (by kernel_rfl) (fun _ _ _ h => h) (by rfl) (fun _ _ => by go_simp) hS ?_
        simp only [Act.put, List.setIfInBounds_toArray, List.set_cons_zero, List.set_cons_succ]
        refine wpAnyL_take 1 20 (.slice xo m c) [] rfl rfl (by kernel_rfl) (by kernel_rfl) (by kernel_rfl) (by kernel_rfl) (by kernel_rfl) (fun _ _ _ h => h) (by rfl) (fun W hW => by have e1 := hC W hW; go_simp) hS ?_
        simp only [Act.put, List.setIfInBounds_toArray, List.set_cons_zero, List.set_cons_succ]
        refine wpAnyL_take 2 21 (.pointer (some ⟨a, 0, none⟩)) [] rfl rfl (by kernel_rfl) (by kernel_rfl) (by kernel_rfl) (by kernel_rfl) (by kernel_rfl) (fun _ _ _ h => h) (by rfl) (fun _ _ => by go_simp) hS ?_
        simp only [Act.put, List.setIfInBounds_toArray, List.set_cons_zero, List.set_cons_succ]
        refine wpAnyL_one (i := 3) (by kernel_rfl) rfl (by rfl) fun K hK => ?_
        refine wp_call_fn 119 _ _ (by rfl) #[.pointer (some ⟨a, 0, none⟩)] (by with_unfolding_all rfl) entTS (some 22) (by rfl) _ (unhide HX X0 (unhide HI0).rd) ?_
        rintro _ X1 ⟨rfl, hr⟩
        have HI1 := hide ((unhide HI0).step hr (unhide HA4) (unhide HM4) (unhide HMA))
        clear hr
        refine hK _ _ (fun _ => (unhide HI1).box) ?_
        clear hK K
        simp only [Act.put, List.setIfInBounds_toArray, List.set_cons_zero, List.set_cons_succ]
        refine wpAnyL_one (i := 4) (by kernel_rfl) rfl (by rfl) fun K hK => ?_
        refine wp_buildTo (by rfl) _ _ (by simp only [List.map_toArray, List.map_cons, List.map_nil]; exact bsS X1 x) (some 23) (by rfl) ?_
        have hbe : Below X1.heap.size X1 (X1.alloc (.cells #[.int .u32 (x.a : Int), .int .u64 (x.c : Int), .bool x.gone, .string x.val] 69)) := (Below.refl _ _).alloc (Nat.le_refl _) _
        have HI2 := hide ((unhide HI1).belw hbe)
        have HD6 := hide (Dw.one X1 x 69)
        generalize X1.alloc (.cells #[.int .u32 (x.a : Int), .int .u64 (x.c : Int), .bool x.gone, .string x.val] 69) = X2 at HI2 HD6 hbe ⊢
        clear hbe
        generalize X1.heap.size = B6 at HD6 ⊢
        refine hK _ _ (fun _ => (unhide HI2).box) ?_
        clear hK K
        simp only [Act.put, List.setIfInBounds_toArray, List.set_cons_zero, List.set_cons_succ]
        refine wpAnyL_one (i := 5) (by kernel_rfl) rfl (by rfl) fun K hK => ?_
        refine wp_putS (.tmp 20) (.tmp 23) (by rfl) (some 24) (by rfl) W4.heap.size acc [x] m 1 (unhide HI2).em rfl xo (some ⟨B6, 0, none⟩) c 1 (by rfl) (by rfl) (unhide HI2).sibs (unhide HD6) (by have := unhide HLN; simp only [List.length_cons, List.length_nil]; omega) (unhide HI2).upd.size ?_
        intro x7 n7 c7 X7 HN7 HO7 _ HBE7 _
        have HM7 : Hid (X7.heap[M]? = some (stRow ⟨ta, tc, xo, c⟩ nt m)) := ((unhide HBE7).block M (unhide HM4)).trans (unhide HI2).box
        refine hK _ _ (fun _ => unhide HM7) ?_
        clear hK K
        simp only [Act.put, List.setIfInBounds_toArray, List.set_cons_zero, List.set_cons_succ]
        refine wpAnyL_one (i := 6) (by kernel_rfl) rfl (by rfl) fun K hK => ?_
        refine wp_val (.pointer (some ⟨M, 1, none⟩)) (by go_simp) (some 25) (by rfl) ?_
        refine hK _ _ (fun _ => unhide HM7) ?_
        clear hK K
        simp only [Act.put, List.setIfInBounds_toArray, List.set_cons_zero, List.set_cons_succ]
        refine wpAnyL_one (i := 7) (by kernel_rfl) rfl (by rfl) fun K hK => ?_
        refine wp_store_sl 29 (.tmp 25) (.tmp 24) (by rfl) (by rfl) M 1 x7 n7 c7 (by rfl) (by rfl) (made_there (unhide HM7) (show 1 < 2 by decide)) (by kernel_rfl) ?_
        have HI8 := hide ((unhide HI2).grow (unhide HBE7) (unhide HO7) (unhide HN7) (unhide HA4) (unhide HM4) (unhide HMA))
        generalize X7.setCell ⟨M, 1, none⟩ (.slice x7 n7 c7) = X8 at HI8 ⊢
        refine hK _ _ (fun q => absurd rfl q) ?_
        clear hK K
        refine wpAnyL_done (by kernel_rfl) ?_ _
        go_wp2
        go_roundw
        case rel => exact ⟨acc ++ [x], x7, n7, n, c7, px, ex, rfl, hide (by have h1 := unhide HLN; have h2 := unhide HN1; rw [List.length_append]; have h3 : [x].length = 1 := rfl; omega), HI8, HTE⟩
        case measure => have := unhide HN1; simp [intOf]; omega
      · have HTE : Hid (TT = (⟨L, acc⟩, p1, e1)) := by rw [unhide HT, tkXs_err _ _ _ he, List.append_nil]; exact rfl
        have heb : (e1 == 0) = false := by simpa using he
        obtain ⟨z0, z1⟩ := st_cells (unhide HI).box
        have HX2 : Hid (wr.heap[N]? = some (stRow Sv.none 0 0)) := ((unhide HI).upd.block N (unhide HN4) (unhide HNA) (by have := unhide HNM; omega)).trans (unhide HX1b)
        go_wp2_with (first
          | (go_at_call 118; refine (unhide HEE).mono ?_; rintro y w1 ⟨rfl, hw1⟩; obtain rfl := hw1.symm; clear hw1)
          | ((with_reducible refine wpList_store_state (by rfl) (.tmp 2) (.tmp 26) (by rfl) N ⟨ta, tc, xo, c⟩ nt m (by with_unfolding_all rfl) (by with_unfolding_all rfl) Sv.none 0 0 (unhide HX2) ?_); intro V1 HV1 HEV; simp only [Act.put])
          | fail)
        have HOD : Hid (OwnD V1 N L ta tc) := by
          rw [unhide HEV]
          refine own_keep (own_down (unhide HD4) (by rw [unhide HN1s]; exact Nat.le_succ _)) fun g hg => ?_
          have h1 := unhide HDM g hg
          exact (heapRow_other _ _ _ _ (by omega)).trans ((unhide HI).upd.block g h1.2.2.1 h1.2.1 h1.1)
        have HOS : Hid (OwnS V1 N acc xo c) := by
          rw [unhide HEV]
          refine own_keep (own_down (unhide HI).sibs (Nat.le_of_lt (unhide HN4))) fun g hg => ?_
          have h1 := (World.ownsRow.lt (unhide HI).sibs g hg).1
          have := unhide HN4
          exact heapRow_other _ _ _ _ (by omega)
        have HRV : Hid (W.Rt u V1 a s p1 e1) := by
          rw [unhide HEV]
          refine ⟨(unhide HI).rd.same (by simp [World.setRow]) (heapRow_other _ _ _ _ (fun q => unhide HNA q.symm)), (unhide HI).upd.os.trans (unhide HUPD).os, (unhide HI).upd.tape.trans (unhide HUPD).tape, (unhide HI).upd.output.trans (unhide HUPD).output, by simpa [World.setRow] using Nat.le_trans (unhide HUPD).size (unhide HI).upd.size, fun k hk g1 g2 => ?_⟩
          have hkN : k < N := by rw [unhide HN]; exact hk
          have := unhide HNM
          have := unhide HN4
          exact (heapRow_other _ _ _ _ (by omega)).trans (((unhide HI).upd.block k (by omega) g1 (by omega)).trans ((unhide HUPD).block k hk g1 g2))
        refine bodyPost_ret (results_cell rfl _ _ N 31 #[.slice ta nt tc, .slice xo m c] (0, 0) _ rfl (unhide HV1) stateUnd rfl stateInfo) rfl ?_
        exact ⟨⟨ta, tc, xo, c⟩, nt, m, rfl, by rw [unhide HTE]; exact unhide HNT, by rw [unhide HTE]; exact (unhide HI).em, by rw [unhide HTE]; exact ⟨unhide HOD, unhide HOS⟩, by rw [unhide HTE]; exact unhide HRV⟩
end Go.Proofs.Ytkcbljmjhlnjpaa
namespace Go.Proofs.Ytkcbljmjhlnjpaa
open Go.RowKit Go.Lib
/-- what Decode answers -/
noncomputable def decT (s : ByteArray) : St × Int :=
  open Classical in if W.endE s.size (tkT s 0 0).2.1 (tkT s 0 0).2.2 = 0 ∧ SOk (tkT s 0 0).1 then ((tkT s 0 0).1, 0) else (St.none, 110)
theorem decT_ok {s : ByteArray} {T : St} {q : Nat} {e : Int} (h : tkT s 0 0 = (T, q, e)) (h1 : W.endE s.size q e = 0) (h2 : SOk T) : decT s = (T, 0) := by
  unfold decT; rw [h]; exact if_pos ⟨h1, h2⟩
theorem decT_no {s : ByteArray} {T : St} {q : Nat} {e : Int} (h : tkT s 0 0 = (T, q, e)) (h1 : ¬ (W.endE s.size q e = 0 ∧ SOk T)) : decT s = (St.none, 110) := by
  unfold decT; rw [h]; exact if_neg h1
theorem OwnT.at' {w : World} {B : Nat} {s : St} {v : Sv} (h : OwnT w B s v) (hf : FitT s) (h1 : s.seen.length ≤ 64) (h2 : s.sibs.length ≤ 64) : SAt w s v :=
  ⟨⟨h.seen.dv, hf.seen, by omega⟩, h.sibs.sa hf.sibs (by omega)⟩
set_option maxRecDepth 100000 in
set_option maxHeartbeats 8000000 in
theorem dDecode (s : ByteArray) (u : World) (hs : s.size ≤ 140737488355328) (J : St) (r : Int) (hJ : decT s = (J, r)) : Calls Try.prog 44 #[.string s] u fun y u' => ∃ x n m, y = .returned (.tuple #[Sv.v x n m, .int .i64 r]) ∧ n = J.seen.length ∧ m = J.sibs.length ∧ OwnT u' u.heap.size J x ∧ Below u.heap.size u u' := by
  obtain ⟨N, hN⟩ : ∃ N, N = u.heap.size := ⟨_, rfl⟩
  have HN := hide hN
  rw [← hN]
  clear hN
  have HNR : Hid (∀ w : World, w.heap.size = N + 1 → Calls Try.prog 78 #[.string s] w fun e w' => e = .returned (.pointer (some ⟨N + 1, 0, none⟩)) ∧ W.Rd w' (N + 1) s 0 0 ∧ Below (N + 1) w w' ∧ w'.heap.size = N + 1 + 1) := fun w hw => (W.rNew s w).mono fun e w' hh => by
    obtain ⟨h1, h2⟩ := hh
    rw [hw] at h1
    refine ⟨h1, ?_, ?_, ?_⟩
    · rw [h2, ← hw]; exact W.Rd.new s w _ (Nat.le_trans hs (by decide))
    · rw [h2, ← hw]; exact (Below.refl _ _).alloc (Nat.le_refl _) _
    · rw [h2, ← hw]; simp
  have HTS : Hid (∀ w : World, W.Rd w (N + 1) s 0 0 → Calls Try.prog 79 #[.pointer (some ⟨N + 1, 0, none⟩)] w fun y u' => ∃ x n m, y = .returned (Sv.v x n m) ∧ n = (tkT s 0 0).1.seen.length ∧ m = (tkT s 0 0).1.sibs.length ∧ OwnT u' w.heap.size (tkT s 0 0).1 x ∧ W.Rt w u' (N + 1) s (tkT s 0 0).2.1 (tkT s 0 0).2.2) := fun w hw => dTakeState (N + 1) s 0 0 w hw
  have HF := hide (tkT_fit s 0 0)
  obtain ⟨T, q, e, hT⟩ : ∃ T q e, tkT s 0 0 = (T, q, e) := ⟨_, _, _, rfl⟩
  rw [hT] at HTS HF
  have HTS : Hid (∀ w : World, W.Rd w (N + 1) s 0 0 → Calls Try.prog 79 #[.pointer (some ⟨N + 1, 0, none⟩)] w fun y u' => ∃ x n m, y = .returned (Sv.v x n m) ∧ n = T.seen.length ∧ m = T.sibs.length ∧ OwnT u' w.heap.size T x ∧ W.Rt w u' (N + 1) s q e) := HTS
  have HF : Hid (FitT T ∧ T.seen.length ≤ 64 ∧ T.sibs.length ≤ 64) := HF
  have HV : Hid (∀ (w : World) (x : Sv) (n m : Nat), n = T.seen.length → m = T.sibs.length → SAt w T x → Calls Try.prog 81 #[Sv.v x n m] w fun e w' => e = .returned (.bool (sokB T)) ∧ Below w.heap.size w w') := fun w x n m h1 h2 h3 => by rw [h1, h2]; exact dValid' T x w h3
  have HEN : Hid (∀ w : World, W.Rd w (N + 1) s q e → Calls Try.prog 80 #[.pointer (some ⟨N + 1, 0, none⟩)] w fun x w' => x = .returned (.int .i64 (W.endE s.size q e)) ∧ ∃ n, w' = w.drewN n) := fun w h => W.rEnd (N + 1) s q e w h
  have hno := decT_no hT
  have hok := decT_ok hT
  obtain ⟨E, hE⟩ : ∃ E, E = W.endE s.size q e := ⟨_, rfl⟩
  rw [← hE] at HEN hno hok
  clear hE hT hs
  by_cases h0 : E = 0
  · subst h0
    by_cases h2 : SOk T
    · rw [hok rfl h2] at hJ
      obtain ⟨hj, hr⟩ := Prod.mk.inj hJ
      subst hj hr
      clear hJ
      rw [sokB_true.2 h2] at HV
      clear hno hok h2
      go_enter Try.func44, Try.ntmps44
      go_wp2_with (first
        | ((with_reducible refine wpList_alloc_state (by rfl) (by rfl) (some 2) (by rfl) N (unhide HN) ?_); intro W1 HX1 HB1 HS1; simp only [Act.put, List.setIfInBounds_toArray, List.set_cons_zero, List.set_cons_succ])
        | (go_at_call 78; refine (unhide HNR W1 (unhide HS1)).mono ?_; rintro y W2 ⟨rfl, h1, h2, h3⟩; have HR2 := hide h1; have HB2 := hide h2; have HS2 := hide h3; clear h1 h2 h3)
        | (go_at_call 79; refine (unhide HTS W2 (unhide HR2)).mono ?_; rintro y W3 ⟨x, nt, mt, rfl, h1, h2, h3, h4⟩; have HNT := hide h1; have HMT := hide h2; have HO3 := hide h3; have HR3 := hide h4; have HXN : Hid (W3.heap[N]? = some (stRow Sv.none 0 0)) := (h4.2.block N (by rw [unhide HS2]; omega) (by omega) (by omega)).trans (((unhide HB2).block N (Nat.lt_succ_self _)).trans (unhide HX1)); clear h1 h2 h3 h4; obtain ⟨M, hM⟩ : ∃ k, k = W3.heap.size := ⟨_, rfl⟩; have HM := hide hM; clear hM)
        | ((with_reducible refine wpList_alloc_state (by rfl) (by rfl) (some 5) (by rfl) M (unhide HM) ?_); intro W4 HX4 HB4 HS4; simp only [Act.put, List.setIfInBounds_toArray, List.set_cons_zero, List.set_cons_succ])
        | ((with_reducible refine wpList_store_state (by rfl) (.tmp 5) (.tmp 9) (by rfl) M x nt mt (by with_unfolding_all rfl) (by with_unfolding_all rfl) Sv.none 0 0 (unhide HX4) ?_); intro W5 HX5 HE5; simp only [Act.put]; have HB5 : Hid (Below W3.heap.size W3 W5) := (by rw [unhide HE5, ← unhide HM]; exact belowRow (unhide HB4) (Nat.le_refl _) _))
        | (go_at_call 80; refine (unhide HEN W5 (Rd.below (unhide HR3).1 (unhide HB5))).mono ?_; rintro y W6 ⟨rfl, z, hz⟩; have HB6 : Hid (Below W5.heap.size W5 W6) := (by rw [hz]; exact belowDrewN (Below.refl _ _) _); clear hz; obtain ⟨x0, x1⟩ := st_cells (box_below (unhide HX5) (unhide HB6)); have HB36 : Hid (Below W3.heap.size W3 W6) := (unhide HB5).trans ((unhide HB6).mono (unhide HB5).size))
        | (go_at_call 81; refine (unhide HV W6 x nt mt (unhide HNT) (unhide HMT) (OwnT.at' ((unhide HO3).below (unhide HB36)) (unhide HF).1 (unhide HF).2.1 (unhide HF).2.2)).mono ?_; rintro y W7 ⟨rfl, hb⟩; have HB7 : Hid (Below W3.heap.size W3 W7) := (unhide HB36).trans (hb.mono (unhide HB36).size); obtain ⟨x0, x1⟩ := st_cells (box_below (box_below (unhide HX5) (unhide HB6)) hb); clear hb)
        | ((with_reducible refine wpList_store_state (by rfl) (.tmp 2) (.tmp 19) (by rfl) N x nt mt (by with_unfolding_all rfl) (by with_unfolding_all rfl) Sv.none 0 0 (box_below (unhide HXN) (unhide HB7)) ?_); intro W9 HX9 HE9; simp only [Act.put])
        | fail)
      have HB9 : Hid (Below N u W9) := by
        rw [unhide HE9]
        have h3 : N + 1 + 1 ≤ W3.heap.size := by have := (unhide HR3).2.size; rw [unhide HS2] at this; exact this
        exact belowRow ((unhide HB1).trans (((unhide HB2).mono (Nat.le_succ _)).trans (((unhide HR3).2.below (by rw [unhide HS2]; omega) (Nat.le_succ _) (Nat.le_succ _)).trans ((unhide HB7).mono (by omega))))) (Nat.le_refl _) _
      have HO9 : Hid (OwnT W9 N T x) := by
        rw [unhide HE9]
        have h1 := (unhide HO3).below (unhide HB7)
        rw [unhide HS2] at h1
        refine ⟨own_keep (own_down h1.seen (by omega)) fun g hg => heapRow_other _ _ _ _ ?_, own_keep (own_down h1.sibs (by omega)) fun g hg => heapRow_other _ _ _ _ ?_⟩
        · have := (World.ownsRow.lt h1.seen g hg).1
          omega
        · have := (World.ownsRow.lt h1.sibs g hg).1
          omega
      refine bodyPost_ret (results_cell_tmp rfl _ _ N 31 #[.slice x.sa nt x.sc, .slice x.ba mt x.bc] (0, 0) _ rfl (unhide HX9) stateUnd rfl stateInfo) rfl ?_
      exact ⟨x, nt, mt, rfl, unhide HNT, unhide HMT, unhide HO9, unhide HB9⟩
    · rw [hno (fun h => h2 h.2)] at hJ
      obtain ⟨hj, hr⟩ := Prod.mk.inj hJ
      subst hj hr
      clear hJ
      rw [sokB_false.2 h2] at HV
      clear hno hok h2
      go_enter Try.func44, Try.ntmps44
      go_wp2_with (first
        | ((with_reducible refine wpList_alloc_state (by rfl) (by rfl) (some 2) (by rfl) N (unhide HN) ?_); intro W1 HX1 HB1 HS1; simp only [Act.put, List.setIfInBounds_toArray, List.set_cons_zero, List.set_cons_succ])
        | (go_at_call 78; refine (unhide HNR W1 (unhide HS1)).mono ?_; rintro y W2 ⟨rfl, h1, h2, h3⟩; have HR2 := hide h1; have HB2 := hide h2; have HS2 := hide h3; clear h1 h2 h3)
        | (go_at_call 79; refine (unhide HTS W2 (unhide HR2)).mono ?_; rintro y W3 ⟨x, nt, mt, rfl, h1, h2, h3, h4⟩; have HNT := hide h1; have HMT := hide h2; have HO3 := hide h3; have HR3 := hide h4; have HXN : Hid (W3.heap[N]? = some (stRow Sv.none 0 0)) := (h4.2.block N (by rw [unhide HS2]; omega) (by omega) (by omega)).trans (((unhide HB2).block N (Nat.lt_succ_self _)).trans (unhide HX1)); clear h1 h2 h3 h4; obtain ⟨M, hM⟩ : ∃ k, k = W3.heap.size := ⟨_, rfl⟩; have HM := hide hM; clear hM)
        | ((with_reducible refine wpList_alloc_state (by rfl) (by rfl) (some 5) (by rfl) M (unhide HM) ?_); intro W4 HX4 HB4 HS4; simp only [Act.put, List.setIfInBounds_toArray, List.set_cons_zero, List.set_cons_succ])
        | ((with_reducible refine wpList_store_state (by rfl) (.tmp 5) (.tmp 9) (by rfl) M x nt mt (by with_unfolding_all rfl) (by with_unfolding_all rfl) Sv.none 0 0 (unhide HX4) ?_); intro W5 HX5 HE5; simp only [Act.put]; have HB5 : Hid (Below W3.heap.size W3 W5) := (by rw [unhide HE5, ← unhide HM]; exact belowRow (unhide HB4) (Nat.le_refl _) _))
        | (go_at_call 80; refine (unhide HEN W5 (Rd.below (unhide HR3).1 (unhide HB5))).mono ?_; rintro y W6 ⟨rfl, z, hz⟩; have HB6 : Hid (Below W5.heap.size W5 W6) := (by rw [hz]; exact belowDrewN (Below.refl _ _) _); clear hz; obtain ⟨x0, x1⟩ := st_cells (box_below (unhide HX5) (unhide HB6)); have HB36 : Hid (Below W3.heap.size W3 W6) := (unhide HB5).trans ((unhide HB6).mono (unhide HB5).size))
        | (go_at_call 81; refine (unhide HV W6 x nt mt (unhide HNT) (unhide HMT) (OwnT.at' ((unhide HO3).below (unhide HB36)) (unhide HF).1 (unhide HF).2.1 (unhide HF).2.2)).mono ?_; rintro y W7 ⟨rfl, hb⟩; have HB7 : Hid (Below W3.heap.size W3 W7) := (unhide HB36).trans (hb.mono (unhide HB36).size); obtain ⟨x0, x1⟩ := st_cells (box_below (box_below (unhide HX5) (unhide HB6)) hb); clear hb)
        | ((with_reducible refine wpList_store_state (by rfl) (.tmp 2) (.tmp 18) (by rfl) N Sv.none 0 0 (by with_unfolding_all rfl) (by with_unfolding_all rfl) Sv.none 0 0 (box_below (unhide HXN) (unhide HB7)) ?_); intro W9 HX9 HE9; simp only [Act.put])
        | fail)
      have HB9 : Hid (Below N u W9) := by
        rw [unhide HE9]
        have h3 : N + 1 + 1 ≤ W3.heap.size := by have := (unhide HR3).2.size; rw [unhide HS2] at this; exact this
        exact belowRow ((unhide HB1).trans (((unhide HB2).mono (Nat.le_succ _)).trans (((unhide HR3).2.below (by rw [unhide HS2]; omega) (Nat.le_succ _) (Nat.le_succ _)).trans ((unhide HB7).mono (by omega))))) (Nat.le_refl _) _
      refine bodyPost_ret (results_cell_tmp rfl _ _ N 31 #[.slice Sv.none.sa 0 Sv.none.sc, .slice Sv.none.ba 0 Sv.none.bc] (0, 0) _ rfl (unhide HX9) stateUnd rfl stateInfo) rfl ?_
      exact ⟨Sv.none, 0, 0, rfl, rfl, rfl, OwnT.none _ _, unhide HB9⟩
  · rw [hno (fun h => h0 h.1)] at hJ
    obtain ⟨hj, hr⟩ := Prod.mk.inj hJ
    subst hj hr
    clear hJ
    have heb : (E == 0) = false := by simpa using h0
    clear hno hok
    go_enter Try.func44, Try.ntmps44
    go_wp2_with (first
      | ((with_reducible refine wpList_alloc_state (by rfl) (by rfl) (some 2) (by rfl) N (unhide HN) ?_); intro W1 HX1 HB1 HS1; simp only [Act.put, List.setIfInBounds_toArray, List.set_cons_zero, List.set_cons_succ])
      | (go_at_call 78; refine (unhide HNR W1 (unhide HS1)).mono ?_; rintro y W2 ⟨rfl, h1, h2, h3⟩; have HR2 := hide h1; have HB2 := hide h2; have HS2 := hide h3; clear h1 h2 h3)
      | (go_at_call 79; refine (unhide HTS W2 (unhide HR2)).mono ?_; rintro y W3 ⟨x, nt, mt, rfl, h1, h2, h3, h4⟩; have HNT := hide h1; have HMT := hide h2; have HO3 := hide h3; have HR3 := hide h4; have HXN : Hid (W3.heap[N]? = some (stRow Sv.none 0 0)) := (h4.2.block N (by rw [unhide HS2]; omega) (by omega) (by omega)).trans (((unhide HB2).block N (Nat.lt_succ_self _)).trans (unhide HX1)); clear h1 h2 h3 h4; obtain ⟨M, hM⟩ : ∃ k, k = W3.heap.size := ⟨_, rfl⟩; have HM := hide hM; clear hM)
      | ((with_reducible refine wpList_alloc_state (by rfl) (by rfl) (some 5) (by rfl) M (unhide HM) ?_); intro W4 HX4 HB4 HS4; simp only [Act.put, List.setIfInBounds_toArray, List.set_cons_zero, List.set_cons_succ])
      | ((with_reducible refine wpList_store_state (by rfl) (.tmp 5) (.tmp 9) (by rfl) M x nt mt (by with_unfolding_all rfl) (by with_unfolding_all rfl) Sv.none 0 0 (unhide HX4) ?_); intro W5 HX5 HE5; simp only [Act.put]; have HB5 : Hid (Below W3.heap.size W3 W5) := (by rw [unhide HE5, ← unhide HM]; exact belowRow (unhide HB4) (Nat.le_refl _) _))
      | (go_at_call 80; refine (unhide HEN W5 (Rd.below (unhide HR3).1 (unhide HB5))).mono ?_; rintro y W6 ⟨rfl, z, hz⟩; have HB6 : Hid (Below W5.heap.size W5 W6) := (by rw [hz]; exact belowDrewN (Below.refl _ _) _); clear hz; obtain ⟨x0, x1⟩ := st_cells (box_below (unhide HX5) (unhide HB6)); have HB36 : Hid (Below W3.heap.size W3 W6) := (unhide HB5).trans ((unhide HB6).mono (unhide HB5).size))
      | ((with_reducible refine wpList_store_state (by rfl) (.tmp 2) (.tmp 18) (by rfl) N Sv.none 0 0 (by with_unfolding_all rfl) (by with_unfolding_all rfl) Sv.none 0 0 (box_below (unhide HXN) (unhide HB36)) ?_); intro W9 HX9 HE9; simp only [Act.put])
      | fail)
    have HB9 : Hid (Below N u W9) := by
      rw [unhide HE9]
      have h3 : N + 1 + 1 ≤ W3.heap.size := by have := (unhide HR3).2.size; rw [unhide HS2] at this; exact this
      exact belowRow ((unhide HB1).trans (((unhide HB2).mono (Nat.le_succ _)).trans (((unhide HR3).2.below (by rw [unhide HS2]; omega) (Nat.le_succ _) (Nat.le_succ _)).trans ((unhide HB36).mono (by omega))))) (Nat.le_refl _) _
    refine bodyPost_ret (results_cell_tmp rfl _ _ N 31 #[.slice Sv.none.sa 0 Sv.none.sc, .slice Sv.none.ba 0 Sv.none.bc] (0, 0) _ rfl (unhide HX9) stateUnd rfl stateInfo) rfl ?_
    exact ⟨Sv.none, 0, 0, rfl, rfl, rfl, OwnT.none _ _, unhide HB9⟩
end Go.Proofs.Ytkcbljmjhlnjpaa
namespace Go.Proofs.Ytkcbljmjhlnjpaa
open Go.RowKit
theorem take_back (L : List UInt8) {a b : Nat} (h1 : a ≤ b) : L.take a ++ (L.drop a).take (b - a) = L.take b := by
  rw [show b = a + (b - a) by omega, List.take_add, show a + (b - a) - a = b - a by omega]
theorem seg_app (L : List UInt8) {p q r : Nat} (h1 : p ≤ q) (h2 : q ≤ r) : (L.drop p).take (q - p) ++ (L.drop q).take (r - q) = (L.drop p).take (r - p) := by
  rw [show L.drop q = (L.drop p).drop (q - p) by rw [List.drop_drop]; congr 1; omega, show r - q = (r - p) - (q - p) by omega]
  exact take_back _ (by omega)
theorem drop_len {s : ByteArray} {p : Nat} {l t : List UInt8} (h : s.data.toList.drop p = l ++ t) (hl : 0 < l.length) : p + l.length ≤ s.size := by
  have := congrArg List.length h
  rw [List.length_drop, List.length_append, W.size_toList] at this
  omega
theorem ext_data (s : ByteArray) (p n : Nat) : (s.extract p (p + n)).data.toList = (s.data.toList.drop p).take n := by
  rw [ByteArray.data_extract, Array.toList_extract, List.extract_eq_take_drop, show p + n - p = n by omega]
theorem raw_fwd {s : ByteArray} {p : Nat} {l t : List UInt8} (h : s.data.toList.drop p = l ++ t) (hp : p ≤ s.size) : W.rawS s p 0 (l.length : Int) = (⟨l.toArray⟩, p + l.length, 0) := by
  have hle : p + l.length ≤ s.size := by
    by_cases h0 : 0 < l.length
    · exact drop_len h h0
    · omega
  unfold W.rawS
  rw [if_neg (by simp), if_neg (by omega), if_neg (by omega), Int.toNat_natCast]
  refine Prod.ext ?_ rfl
  show s.extract p (p + l.length) = ⟨l.toArray⟩
  have := ext_data s p l.length
  rw [h, List.take_left] at this
  exact ByteArray.ext (Array.toList_inj.1 (by rw [this]))
theorem fix1_fwd {s : ByteArray} {p : Nat} {b : UInt8} {t : List UInt8} (h : s.data.toList.drop p = [b] ++ t) : W.fixS s p 0 1 = (b.toNat, p + 1, 0) := by
  have hp : p + [b].length ≤ s.size := drop_len h (by simp)
  have h1 := raw_fwd h (by simp at hp; omega)
  have h1 : W.rawS s p 0 1 = (⟨[b].toArray⟩, p + 1, 0) := h1
  unfold W.fixS
  rw [if_neg (by omega), h1]
  simp [W.numB]
theorem text_fwd {s : ByteArray} {p : Nat} {v : ByteArray} {t : List UInt8} (h : s.data.toList.drop p = textB v ++ t) (hv : v.size ≤ 40) : W.textS s p 0 40 = (v, p + (textB v).length, 0) := by
  unfold textB at h
  rw [List.append_assoc] at h
  have h1 := W.uint_fwd (s := s) (p := p) (most := 40) h (by omega) hv
  have hp : p + (W.uintB 9 v.size).length ≤ s.size := drop_len h (by have := (uintB_len 9 v.size).1; omega)
  have h2 := raw_fwd (drop_app h) hp
  rw [W.size_toList] at h2
  unfold W.textS
  rw [if_neg (by decide), show ((40 : Int).toNat) = 40 from rfl, h1]
  simp only [h2]
  rw [if_neg (by simp)]
  unfold textB
  rw [List.length_append, W.size_toList, ← Nat.add_assoc]
theorem tkX_fwd {s : ByteArray} {x : Sb} {p : Nat} {t : List UInt8} (hf : x.Fit) (hm : x.may) (hc : x.c ≤ 1099511627776) (h : s.data.toList.drop p = sibB x ++ t) : tkX s p 0 = (x, p + (sibB x).length, 0) := by
  have hv : x.val.size ≤ 40 := by unfold Sb.may at hm; split at hm <;> omega
  have e0 : sibB x = W.uintB 9 x.a ++ (W.uintB 9 x.c ++ ([if x.gone then 1 else 0] ++ textB x.val)) := rfl
  rw [e0, List.append_assoc] at h
  have h1 := W.uint_fwd (s := s) (p := p) (most := 4294967295) h (by have := hf.1; omega) (by have := hf.1; omega)
  have h' := drop_app h
  rw [List.append_assoc] at h'
  have h2 := W.uint_fwd (s := s) (most := 1099511627776) h' hf.2.1 hc
  have h'' := drop_app h'
  rw [List.append_assoc] at h''
  have h3 := fix1_fwd h''
  have h4 := text_fwd (drop_app h'') hv
  have hmk : markE ((if x.gone then 1 else 0 : UInt8).toNat % 256) 0 = 0 := by cases x.gone <;> rfl
  have h5 := tkX_eq h1 h2 h3 ((congrArg (fun e => W.textS s (p + (W.uintB 9 x.a).length + (W.uintB 9 x.c).length + 1) e 40) hmk).trans h4)
  rw [h5]
  refine Prod.ext ?_ (Prod.ext ?_ rfl)
  · refine Sb.ext' rfl rfl ?_ rfl
    show decide ((if x.gone then 1 else 0 : UInt8).toNat % 256 = 1) = x.gone
    cases x.gone <;> rfl
  · show _ = p + (sibB x).length
    rw [e0]
    simp only [List.length_append, List.length_cons, List.length_nil]
    omega
theorem tkXs_fwd (s : ByteArray) : ∀ (l : List Sb) (p : Nat) (t : List UInt8), (∀ x ∈ l, x.Fit ∧ x.may ∧ x.c ≤ 1099511627776) → s.data.toList.drop p = sibsB l ++ t → tkXs s l.length p 0 = (l, p + (sibsB l).length, 0)
  | [], p, t, _, _ => by simp [tkXs, sibsB]
  | x :: l, p, t, hx, h => by
    have e : sibsB (x :: l) = sibB x ++ sibsB l := by simp [sibsB]
    rw [e, List.append_assoc] at h
    have h0 := hx x (List.mem_cons_self ..)
    have h1 := tkX_fwd h0.1 h0.2.1 h0.2.2 h
    have h3 := tkXs_fwd s l _ t (fun y hy => hx y (List.mem_cons_of_mem _ hy)) (drop_app h)
    rw [List.length_cons, tkXs_succ, h1]
    simp only [h3]
    rw [e, List.length_append, Nat.add_assoc]
theorem sok_c {s : St} (h : SOk s) : ∀ x ∈ s.sibs, x.c ≤ 1099511627776 := fun x hx => by
  have h1 := (h.cvd x hx).2
  have h2 : V.cnt s.seen x.a ≤ 1099511627776 := V.cnt_le h.vec.pos x.a
  exact Nat.le_trans h1 h2
theorem decT_enc {s : St} (h : SOk s) (hf : FitT s) : decT ⟨(stB s).toArray⟩ = (s, 0) := by
  have hs : (⟨(stB s).toArray⟩ : ByteArray).size = (stB s).length := List.size_toArray
  have e0 : (⟨(stB s).toArray⟩ : ByteArray).data.toList.drop 0 = vecB s.seen ++ (W.uintB 9 s.sibs.length ++ sibsB s.sibs) := by simp [stB]
  have h1 := tkV_fwd ⟨(stB s).toArray⟩ s.seen 0 _ (small_ok h.ok hf.seen) h.slen e0
  have he : takeE ⟨(stB s).toArray⟩ 0 0 = 0 := by unfold takeE; rw [h1]; simp [V.okB_true.2 h.ok]
  have hl : takeL ⟨(stB s).toArray⟩ 0 0 = s.seen := by unfold takeL; rw [he, h1]; simp
  have e1 := drop_app e0
  have h2 := W.uint_fwd (most := 64) e1 (by have := h.len; omega) h.len
  have h3 := tkXs_fwd ⟨(stB s).toArray⟩ s.sibs _ [] (fun x hx => ⟨hf.sibs x hx, h.may x hx, sok_c h x hx⟩) (by rw [List.append_nil]; exact drop_app e1)
  have hT : tkT ⟨(stB s).toArray⟩ 0 0 = (s, (stB s).length, 0) := by
    unfold tkT
    rw [he, hl, h1]
    simp only [h2, h3]
    refine Prod.ext rfl (Prod.ext ?_ rfl)
    show _ = (stB s).length
    unfold stB
    simp only [List.length_append]
    omega
  exact decT_ok hT (by rw [hs]; simp [W.endE]) h
theorem rawS_err (s : ByteArray) (p : Nat) {e : Int} (n : Int) (h : e ≠ 0) : W.rawS s p e n = (⟨#[]⟩, p, e) := by unfold W.rawS; rw [if_pos h]
theorem fixS_err (s : ByteArray) (p : Nat) {e : Int} (h : e ≠ 0) : W.fixS s p e 1 = (0, p, e) := by unfold W.fixS; rw [if_neg (by omega), rawS_err s p _ h]; rfl
theorem textS_err (s : ByteArray) (p : Nat) {e : Int} (h : e ≠ 0) : W.textS s p e 40 = (⟨#[]⟩, p, e) := by
  unfold W.textS
  rw [if_neg (by decide), uintS_err s p _ h]
  simp only [rawS_err s p _ h]
  rw [if_pos h]
theorem markE_err (m : Nat) {e : Int} (h : e ≠ 0) : markE m e = e := by unfold markE W.failE; rw [if_neg h]; split <;> rfl
theorem raw_ok (s : ByteArray) (p n : Nat) (h : (W.rawS s p 0 (n : Int)).2.2 = 0) : p + n ≤ s.size ∧ W.rawS s p 0 (n : Int) = (s.extract p (p + n), p + n, 0) ∧ (s.extract p (p + n)).size = n := by
  unfold W.rawS at h ⊢
  rw [if_neg (by simp), if_neg (by omega)] at h ⊢
  by_cases h2 : (s.size : Int) - p < n
  · rw [if_pos h2] at h; cases h
  · rw [if_neg h2]
    refine ⟨by omega, by rw [Int.toNat_natCast], ?_⟩
    rw [ByteArray.size_extract]; omega
theorem fix1_ok (s : ByteArray) (p : Nat) (h : (W.fixS s p 0 1).2.2 = 0) : ∃ b : UInt8, p + 1 ≤ s.size ∧ W.fixS s p 0 1 = (b.toNat, p + 1, 0) ∧ [b] = (s.data.toList.drop p).take 1 := by
  have hr : (W.rawS s p 0 ((1 : Nat) : Int)).2.2 = 0 := by
    unfold W.fixS at h; rw [if_neg (by omega)] at h; exact h
  obtain ⟨h1, h2, h3⟩ := raw_ok s p 1 hr
  have h4 := ext_data s p 1
  have h5 : ((s.extract p (p + 1)).data.toList).length = 1 := by rw [W.size_toList]; exact h3
  obtain ⟨b, hb⟩ := List.length_eq_one_iff.1 h5
  refine ⟨b, h1, ?_, by rw [← h4, hb]⟩
  unfold W.fixS
  rw [if_neg (by omega)]
  have h2 : W.rawS s p 0 1 = (s.extract p (p + 1), p + 1, 0) := h2
  rw [h2]
  simp only [hb]
  simp [W.numB]
theorem text_ok (s : ByteArray) (p : Nat) (h : (W.textS s p 0 40).2.2 = 0) : p ≤ (W.textS s p 0 40).2.1 ∧ ((W.textS s p 0 40).2.1 ≤ s.size) ∧ textB (W.textS s p 0 40).1 = (s.data.toList.drop p).take ((W.textS s p 0 40).2.1 - p) := by
  unfold W.textS at h ⊢
  rw [if_neg (by decide), show ((40 : Int).toNat) = 40 from rfl] at h ⊢
  by_cases h2 : (W.rawS s (W.uintS s p 0 40).2.1 (W.uintS s p 0 40).2.2 (W.uintS s p 0 40).1).2.2 ≠ 0
  · rw [if_pos h2] at h; exact absurd h h2
  · rw [if_neg h2] at h ⊢
    have he : (W.uintS s p 0 40).2.2 = 0 := by
      by_cases he : (W.uintS s p 0 40).2.2 = 0
      · exact he
      · rw [rawS_err s _ _ he] at h; exact absurd h he
    have u1 := W.uint_ok s p 40 he
    rw [he] at h ⊢
    generalize W.uintS s p 0 40 = q at *
    obtain ⟨v, p1, e1⟩ := q
    simp only at *
    obtain ⟨r1, r2, r3⟩ := raw_ok s p1 v h
    rw [r2]
    refine ⟨by show p ≤ p1 + v; omega, r1, ?_⟩
    show textB (s.extract p1 (p1 + v)) = (s.data.toList.drop p).take (p1 + v - p)
    unfold textB
    rw [r3, u1.2.2, ext_data, ← seg_app s.data.toList u1.1 (Nat.le_add_right p1 v), show p1 + v - p1 = v by omega]
theorem tkX_inv (s : ByteArray) (p : Nat) (h : (tkX s p 0).2.2 = 0) : p ≤ (tkX s p 0).2.1 ∧ (tkX s p 0).2.1 ≤ s.size ∧ sibB (tkX s p 0).1 = (s.data.toList.drop p).take ((tkX s p 0).2.1 - p) := by
  obtain ⟨xa, px, ex, h1⟩ : ∃ xa px ex, W.uintS s p 0 4294967295 = (xa, px, ex) := ⟨_, _, _, rfl⟩
  obtain ⟨xc, py, ey, h2⟩ : ∃ xc py ey, W.uintS s px ex 1099511627776 = (xc, py, ey) := ⟨_, _, _, rfl⟩
  obtain ⟨xm, pm, em, h3⟩ : ∃ xm pm em, W.fixS s py ey 1 = (xm, pm, em) := ⟨_, _, _, rfl⟩
  obtain ⟨tv, pt, et, h4⟩ : ∃ tv pt et, W.textS s pm (markE (xm % 256) em) 40 = (tv, pt, et) := ⟨_, _, _, rfl⟩
  rw [tkX_eq h1 h2 h3 h4] at h ⊢
  simp only at h ⊢
  subst h
  have hmk : markE (xm % 256) em = 0 := by
    by_cases hq : markE (xm % 256) em = 0
    · exact hq
    · rw [textS_err s pm hq] at h4; exact absurd (Prod.mk.inj (Prod.mk.inj h4).2).2 hq
  have hem : em = 0 := by
    by_cases hq : em = 0
    · exact hq
    · rw [markE_err _ hq] at hmk; exact hmk
  subst hem
  have hey : ey = 0 := by
    by_cases hq : ey = 0
    · exact hq
    · rw [fixS_err s py hq] at h3; exact (Prod.mk.inj (Prod.mk.inj h3).2).2
  subst hey
  have hex : ex = 0 := by
    by_cases hq : ex = 0
    · exact hq
    · rw [uintS_err s px _ hq] at h2; exact (Prod.mk.inj (Prod.mk.inj h2).2).2
  subst hex
  rw [hmk] at h4
  have u1 := W.uint_ok s p 4294967295 (by rw [h1])
  have u2 := W.uint_ok s px 1099511627776 (by rw [h2])
  obtain ⟨b, u3, u4, u5⟩ := fix1_ok s py (by rw [h3])
  have u6 := text_ok s pm (by rw [h4])
  rw [h1] at u1
  rw [h2] at u2
  rw [h4] at u6
  rw [h3] at u4
  simp only at u1 u2 u6
  obtain ⟨rfl, hpm⟩ := Prod.mk.inj u4
  obtain ⟨rfl, -⟩ := Prod.mk.inj hpm
  have hb : (if decide (b.toNat % 256 = 1) = true then 1 else 0 : UInt8) = b := by
    have hlt := b.toNat_lt
    unfold markE W.failE at hmk
    by_cases hb1 : b.toNat = 1
    · have : b = 1 := UInt8.toNat.inj hb1
      subst this; rfl
    · by_cases hb0 : b.toNat = 0
      · have : b = 0 := UInt8.toNat.inj hb0
        subst this; rfl
      · exfalso
        rw [if_pos ⟨by omega, by omega⟩, if_pos rfl] at hmk
        cases hmk
  refine ⟨by omega, u6.2.1, ?_⟩
  show W.uintB 9 xa ++ (W.uintB 9 xc ++ ([if decide (b.toNat % 256 = 1) = true then 1 else 0] ++ textB tv)) = _
  rw [hb, u1.2.2, u2.2.2, u5, u6.2.2]
  have e3 := seg_app s.data.toList (show py ≤ py + 1 by omega) u6.1
  rw [show py + 1 - py = 1 by omega] at e3
  rw [e3, seg_app _ u2.1 (by omega), seg_app _ u1.1 (by omega)]
theorem tkXs_inv (s : ByteArray) : ∀ (n p : Nat), p ≤ s.size → (tkXs s n p 0).2.2 = 0 → p ≤ (tkXs s n p 0).2.1 ∧ (tkXs s n p 0).2.1 ≤ s.size ∧ (tkXs s n p 0).1.length = n ∧ sibsB (tkXs s n p 0).1 = (s.data.toList.drop p).take ((tkXs s n p 0).2.1 - p)
  | 0, p, hp, _ => by simp [tkXs, sibsB, hp]
  | n + 1, p, hp, h => by
    rw [tkXs_succ] at h ⊢
    by_cases h1 : (tkX s p 0).2.2 = 0
    · have u1 := tkX_inv s p h1
      rw [h1] at h ⊢
      generalize tkX s p 0 = x at *
      obtain ⟨xa, px, ex⟩ := x
      simp only at h h1 u1 ⊢
      have ih := tkXs_inv s n px u1.2.1 h
      generalize tkXs s n px 0 = z at *
      obtain ⟨l, pz, ez⟩ := z
      simp only at ih ⊢
      refine ⟨by omega, ih.2.1, by rw [List.length_cons, ih.2.2.1], ?_⟩
      rw [show sibsB (xa :: l) = sibB xa ++ sibsB l by simp [sibsB], u1.2.2, ih.2.2.2]
      exact seg_app _ u1.1 ih.1
    · exfalso
      rw [tkXs_err _ _ _ h1] at h
      exact h1 h
theorem takeE_ok {s : ByteArray} (he : takeE s 0 0 = 0) : V.Ok (tkV s 0 0).1 ∧ (tkV s 0 0).2.2 = 0 ∧ takeL s 0 0 = (tkV s 0 0).1 := by
  have hok : V.okB (tkV s 0 0).1 = true := by
    cases hk : V.okB (tkV s 0 0).1
    · exfalso
      unfold takeE at he
      rw [hk] at he
      simp only [Bool.false_eq_true, if_false] at he
      unfold W.failE at he
      split at he
      · cases he
      · rename_i h0; exact h0 he
    · rfl
  refine ⟨V.okB_true.1 hok, by unfold takeE at he; rw [hok] at he; simpa using he, by unfold takeL; rw [if_pos he]⟩
theorem tkT_inv (s : ByteArray) (h : (tkT s 0 0).2.2 = 0) : (tkT s 0 0).2.1 ≤ s.size ∧ stB (tkT s 0 0).1 = s.data.toList.take (tkT s 0 0).2.1 := by
  unfold tkT at h ⊢
  simp only at h ⊢
  have hu : (W.uintS s (tkV s 0 0).2.1 (takeE s 0 0) 64).2.2 = 0 := by
    by_cases hq : (W.uintS s (tkV s 0 0).2.1 (takeE s 0 0) 64).2.2 = 0
    · exact hq
    · rw [tkXs_err _ _ _ hq] at h; exact h
  have he : takeE s 0 0 = 0 := by
    by_cases hq : takeE s 0 0 = 0
    · exact hq
    · rw [uintS_err s _ _ hq] at hu; exact hu
  obtain ⟨-, h0, hl⟩ := takeE_ok he
  have hi := tkV_inv s h0
  rw [he] at hu h ⊢
  rw [hl]
  have u1 := W.uint_ok s (tkV s 0 0).2.1 64 hu
  rw [hu] at h ⊢
  generalize tkV s 0 0 = v at *
  obtain ⟨l, p, e⟩ := v
  simp only at *
  generalize W.uintS s p 0 64 = x at *
  obtain ⟨n, px, ex⟩ := x
  simp only at *
  have hpx : px ≤ s.size := by rcases u1.2.1 with h | h; exact h; omega
  have ih := tkXs_inv s n px hpx h
  generalize tkXs s n px 0 = z at *
  obtain ⟨ls, pz, ez⟩ := z
  simp only at *
  refine ⟨ih.2.1, ?_⟩
  unfold stB
  simp only
  rw [hi.2, ih.2.2.1, u1.2.2, ih.2.2.2, seg_app _ u1.1 ih.1]
  exact take_back _ (by omega)
theorem decT_cases (s : ByteArray) : (∃ T, decT s = (T, 0) ∧ SOk T ∧ FitT T ∧ (⟨(stB T).toArray⟩ : ByteArray) = s) ∨ decT s = (St.none, 110) := by
  obtain ⟨T, q, e, hT⟩ : ∃ T q e, tkT s 0 0 = (T, q, e) := ⟨_, _, _, rfl⟩
  by_cases h : W.endE s.size q e = 0 ∧ SOk T
  · left
    have hh := h.1
    unfold W.endE at hh
    split at hh
    · rename_i he
      subst he
      split at hh
      · cases hh
      · rename_i hq
        have hi := tkT_inv s (by rw [hT])
        have hf := (tkT_fit s 0 0).1
        rw [hT] at hi hf
        refine ⟨T, decT_ok hT h.1 h.2, h.2, hf, ?_⟩
        simp only at hi
        rw [hi.2, show q = s.data.toList.length by rw [W.size_toList]; omega, List.take_length]
    · rename_i he; exact absurd hh he
  · exact .inr (decT_no hT h)
theorem stB_none : (⟨(stB St.none).toArray⟩ : ByteArray) = ⟨#[0, 0]⟩ := by
  simp [stB, St.none, vecB, dotsB, sibsB, W.uintB]
end Go.Proofs.Ytkcbljmjhlnjpaa
