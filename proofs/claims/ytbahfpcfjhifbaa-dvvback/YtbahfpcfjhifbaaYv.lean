/- States: taken, and Decode. -/
import Derived.Test.YtbahfpcfjhifbaaYu
namespace Go.Proofs.Ytbahfpcfjhifbaa
open Go.RowKit Go.Lib
theorem entTS : ∀ args (w : World), (callFunc 90 args).run Try.prog w = .ok (.enter 90 args) w := by
  intro args w
  go_simp
/-- siblings, as they are taken -/
def tkXs (s : ByteArray) : Nat → Nat → Int → List Sb × Nat × Int
  | 0, p, e => ([], p, e)
  | n + 1, p, e => if e ≠ 0 then ([], p, e) else ((tkX s p e).1 :: (tkXs s n (tkX s p e).2.1 (tkX s p e).2.2).1, (tkXs s n (tkX s p e).2.1 (tkX s p e).2.2).2)
theorem tkXs_zero (s : ByteArray) (p : Nat) (e : Int) : tkXs s 0 p e = ([], p, e) := rfl
theorem tkXs_err (s : ByteArray) (n p : Nat) {e : Int} (h : e ≠ 0) : tkXs s n p e = ([], p, e) := by
  cases n with
  | zero => rfl
  | succ n => rw [tkXs, if_pos h]
theorem tkXs_succ (s : ByteArray) (n p : Nat) : tkXs s (n + 1) p 0 = ((tkX s p 0).1 :: (tkXs s n (tkX s p 0).2.1 (tkX s p 0).2.2).1, (tkXs s n (tkX s p 0).2.1 (tkX s p 0).2.2).2) := by rw [tkXs, if_neg (fun h => h rfl)]
theorem tkXs_fit (s : ByteArray) : ∀ (n p : Nat) (e : Int), FitS (tkXs s n p e).1 ∧ (tkXs s n p e).1.length ≤ n
  | 0, p, e => ⟨fun x hx => (by cases hx), Nat.le_refl _⟩
  | n + 1, p, e => by
    by_cases h : e = 0
    · subst h
      rw [tkXs_succ]
      have := tkXs_fit s n (tkX s p 0).2.1 (tkX s p 0).2.2
      refine ⟨fun x hx => ?_, by simp only [List.length_cons]; omega⟩
      rcases List.mem_cons.1 hx with rfl | hx
      · exact tkX_fit s p 0
      · exact this.1 x hx
    · rw [tkXs_err s _ _ h]; exact ⟨fun x hx => (by cases hx), Nat.zero_le _⟩
/-- a state, as it is taken -/
noncomputable def tkT (s : ByteArray) (p : Nat) (e : Int) : St × Nat × Int :=
  (⟨takeL s p e, (tkXs s (W.uintS s (tkV s p e).2.1 (takeE s p e) 64).1 (W.uintS s (tkV s p e).2.1 (takeE s p e) 64).2.1 (W.uintS s (tkV s p e).2.1 (takeE s p e) 64).2.2).1⟩,
    (tkXs s (W.uintS s (tkV s p e).2.1 (takeE s p e) 64).1 (W.uintS s (tkV s p e).2.1 (takeE s p e) 64).2.1 (W.uintS s (tkV s p e).2.1 (takeE s p e) 64).2.2).2)
theorem takeL_fits (s : ByteArray) (p : Nat) (e : Int) : Fits (takeL s p e) ∧ (takeL s p e).length ≤ 64 := by
  unfold takeL; split
  · exact tkV_fits s p e
  · exact ⟨fun d hd => (by cases hd), Nat.zero_le _⟩
theorem tkT_fit (s : ByteArray) (p : Nat) (e : Int) : FitT (tkT s p e).1 ∧ (tkT s p e).1.seen.length ≤ 64 ∧ (tkT s p e).1.sibs.length ≤ 64 :=
  ⟨⟨(takeL_fits s p e).1, (tkXs_fit s _ _ _).1⟩, (takeL_fits s p e).2, Nat.le_trans (tkXs_fit s _ _ _).2 (uintS_le s _ _ 64)⟩
theorem row_free {w : World} {M : Nat} {cs : Array Value} {t : TypeId} (h : w.heap[M]? = some (.cells cs t (0, 0))) (k : Nat) : w.frozen? ⟨M, k, none⟩ = false := by simp [World.frozen?, h]
theorem made_there {w : World} {M k : Nat} {cs : Array Value} {t : TypeId} (h : w.heap[M]? = some (.cells cs t (0, 0))) (hk : k < cs.size) : w.there M k 1 := fun j hj => by
  obtain rfl : j = 0 := by omega
  exact ⟨by simp [World.cell?, h, hk], row_free h _⟩
theorem wp_store_sl {P : Program} {o : Oper} {a : Act} {w : World} {K : Act → World → Prop} {Q : Exit → Act → World → Prop} (ty : TypeId) (x y : Operand) (ho : o.op = .store ty x y) (hd : o.dst = none) (b k : Nat) (ao : Option Addr) (n c : Nat) (hx : a.eval x = .pointer (some ⟨b, k, none⟩)) (hy : a.eval y = .slice ao n c)
    (ht : w.there b k 1) (hi : (P.info? ty).map (·.size) = some 1) (h : K a (w.setCell ⟨b, k, none⟩ (.slice ao n c))) : o.wp P a w K Q := by
  have h1 : (storeVar ty ⟨b, k, none⟩ (.slice ao n c)).run P w = .ok () (w.setCells b k [.slice ao n c]) := run_storeVar_mid (P := P) w b k ty #[.slice ao n c] ht hi (by simp [Value.oneCell'])
  unfold Oper.wp execOp
  simp only [ho, hx, hy, Instr.storeAt, Instr.sureAddr, Sem.run_bind, Sem.run_pure, Result.andThen_ok, h1]
  exact (show K (a.put o.dst undef) _ by rw [hd]; exact h)
/-- while siblings are taken into the variable at M -/
structure Ts (B w : World) (a M : Nat) (s : ByteArray) (p : Nat) (e : Int) (ta : Option Addr) (tc nt : Nat) (acc : List Sb) (xo : Option Addr) (c m : Nat) : Prop where
  rd : W.Rd w a s p e
  upd : W.Upd B w a M
  sibs : OwnS w B.heap.size acc xo c
  em : m = acc.length
  box : w.heap[M]? = some (stRow ⟨ta, tc, xo, c⟩ nt m)
section
variable {B w w' : World} {a M : Nat} {s : ByteArray} {p : Nat} {e : Int} {ta : Option Addr} {tc nt : Nat} {acc : List Sb} {xo : Option Addr} {c m : Nat}
theorem Ts.step {p' : Nat} {e' : Int} (h : Ts B w a M s p e ta tc nt acc xo c m) (hr : W.Rt w w' a s p' e') (ha : a < B.heap.size) (hm : M < B.heap.size) (hne : M ≠ a) : Ts B w' a M s p' e' ta tc nt acc xo c m := by
  have hbk : ∀ k, k < w.heap.size → k ≠ a → w'.heap[k]? = w.heap[k]? := fun k hk hka => hr.2.block k hk hka hka
  refine ⟨hr.1, ⟨hr.2.os.trans h.upd.os, hr.2.tape.trans h.upd.tape, hr.2.output.trans h.upd.output, Nat.le_trans h.upd.size hr.2.size, fun k hk h1 h2 => (hbk k (Nat.lt_of_lt_of_le hk h.upd.size) h1).trans (h.upd.block k hk h1 h2)⟩, own_keep h.sibs fun g hg => ?_, h.em, (hbk M (Nat.lt_of_lt_of_le hm h.upd.size) hne).trans h.box⟩
  have := World.ownsRow.lt h.sibs g hg
  exact hbk g this.2 (by omega)
theorem Ts.belw (h : Ts B w a M s p e ta tc nt acc xo c m) (hb : Below w.heap.size w w') : Ts B w' a M s p e ta tc nt acc xo c m :=
  ⟨Rd.below h.rd hb, ⟨hb.os.trans h.upd.os, hb.tape.trans h.upd.tape, hb.output.trans h.upd.output, Nat.le_trans h.upd.size hb.size, fun k hk h1 h2 => (hb.block k (Nat.lt_of_lt_of_le hk h.upd.size)).trans (h.upd.block k hk h1 h2)⟩, h.sibs.below hb, h.em, box_below h.box hb⟩
theorem Ts.grow {acc' : List Sb} {xo' : Option Addr} {c' m' : Nat} (h : Ts B w a M s p e ta tc nt acc xo c m) (hb : Below B.heap.size w w') (ho : OwnS w' B.heap.size acc' xo' c') (em : m' = acc'.length) (ha : a < B.heap.size) (hm : M < B.heap.size) (hne : M ≠ a) : Ts B (w'.setCell ⟨M, 1, none⟩ (.slice xo' m' c')) a M s p e ta tc nt acc' xo' c' m' := by
  have hb0 := hb.block M hm
  have ho1 : ∀ k, k ≠ M → (w'.setCell ⟨M, 1, none⟩ (.slice xo' m' c')).heap[k]? = w'.heap[k]? := fun k hk => Deep.blk_setCell_other w' ⟨M, 1, none⟩ _ k hk
  have hsz : (w'.setCell ⟨M, 1, none⟩ (.slice xo' m' c')).heap.size = w'.heap.size := by simp [World.setCell]
  refine ⟨?_, ⟨hb.os.trans h.upd.os, hb.tape.trans h.upd.tape, hb.output.trans h.upd.output, ?_, fun k hk h1 h2 => ?_⟩, own_keep ho fun g hg => ho1 g ?_, em, ?_⟩
  · exact h.rd.same (by rw [hsz]; exact hb.size) ((ho1 a (fun q => hne q.symm)).trans (hb.block a ha))
  · rw [hsz]; exact Nat.le_trans h.upd.size hb.size
  · exact (ho1 k h2).trans ((hb.block k hk).trans (h.upd.block k hk h1 h2))
  · have := World.ownsRow.lt ho g hg
    omega
  · have := heapCell_same (hb0.trans h.box) 1 (.slice xo' m' c')
    exact this
end
set_option maxRecDepth 100000 in
set_option maxHeartbeats 8000000 in
theorem dTakeState (a : Nat) (s : ByteArray) (p : Nat) (e : Int) (u : World) (h : W.Rd u a s p e) : Calls Try.prog 72 #[.pointer (some ⟨a, 0, none⟩)] u fun y u' => ∃ x n m, y = .returned (Sv.v x n m) ∧ n = (tkT s p e).1.seen.length ∧ m = (tkT s p e).1.sibs.length ∧ OwnT u' u.heap.size (tkT s p e).1 x ∧ W.Rt u u' a s (tkT s p e).2.1 (tkT s p e).2.2 := by
  have hmix : Try.prog.follows .mixedOrders = true := by kernel_rfl
  obtain ⟨N, hN⟩ : ∃ N, N = u.heap.size := ⟨_, rfl⟩
  have HN := hide hN
  have HR := hide h
  have HAN := hide h.lt
  have HVT : Hid (∀ w : World, W.Rd w a s p e → Calls Try.prog 87 #[.pointer (some ⟨a, 0, none⟩)] w fun x w' => ∃ ao n c, x = .returned (.slice ao n c) ∧ n = (takeL s p e).length ∧ Tk w w' w.heap.size a s (tkV s p e).2.1 (takeE s p e) (takeL s p e) ao c) := fun w hw => (vTake a s p e w hw).mono fun x w' hh => by
    obtain ⟨ao, c, h1, h2⟩ := hh
    exact ⟨ao, _, c, h1, rfl, h2⟩
  have HTT : Hid (tkT s p e = (⟨takeL s p e, (tkXs s (W.uintS s (tkV s p e).2.1 (takeE s p e) 64).1 (W.uintS s (tkV s p e).2.1 (takeE s p e) 64).2.1 (W.uintS s (tkV s p e).2.1 (takeE s p e) 64).2.2).1⟩, (tkXs s (W.uintS s (tkV s p e).2.1 (takeE s p e) 64).1 (W.uintS s (tkV s p e).2.1 (takeE s p e) 64).2.1 (W.uintS s (tkV s p e).2.1 (takeE s p e) 64).2.2).2)) := rfl
  generalize tkT s p e = TT at *
  generalize takeL s p e = L at *
  generalize takeE s p e = E at *
  generalize (tkV s p e).2.1 = q at *
  obtain ⟨n0, p0, e0, h1⟩ : ∃ n0 p0 e0, W.uintS s q E 64 = (n0, p0, e0) := ⟨_, _, _, rfl⟩
  have hn0 : n0 ≤ 64 := by have := uintS_le s q E 64; rw [h1] at this; exact this
  rw [h1] at HTT
  have HTT : Hid (TT = (⟨L, (tkXs s n0 p0 e0).1⟩, (tkXs s n0 p0 e0).2)) := HTT
  have HU1 : Hid (∀ w : World, W.Rd w a s q E → Calls Try.prog 88 #[.pointer (some ⟨a, 0, none⟩), .int .u64 64] w fun y w' => y = .returned (.int .u64 (n0 : Int)) ∧ W.Rt w w' a s p0 e0) := fun w hw => by have := W.rUint a s q E 64 w hw; rw [h1] at this; exact this
  have HE : Hid (∀ (w : World) (p : Nat) (e : Int), W.Rd w a s p e → Calls Try.prog 89 #[.pointer (some ⟨a, 0, none⟩)] w fun x w' => x = .returned (.int .i64 e) ∧ w' = w) := fun w p e h => W.rErr a s p e w h
  have HL0 := hide hn0
  rw [← hN]
  clear hN h h1 hn0
  go_enter Try.func72, Try.ntmps72
  go_wp2_with (first
    | ((with_reducible refine wpList_alloc_state (by rfl) (by rfl) (some 2) (by rfl) N (unhide HN) ?_); intro W1 HX1 HB1 HS1; simp only [Act.put, List.setIfInBounds_toArray, List.set_cons_zero, List.set_cons_succ]; have HR1 := hide (Rd.below (unhide HR) (by rw [← unhide HN]; exact unhide HB1)))
    | (go_at_call 87; refine (unhide HVT W1 (unhide HR1)).mono ?_; rintro y W2 ⟨ta, nt, tc, rfl, h1, h2⟩; have HNT := hide h1; have HT2 := hide h2; clear h1 h2; obtain ⟨M, hM⟩ : ∃ k, k = W2.heap.size := ⟨_, rfl⟩; have HM := hide hM; clear hM)
    | ((with_reducible refine wpList_alloc_state (by rfl) (by rfl) (some 3) (by rfl) M (unhide HM) ?_); intro W3 HX3 HB3 HS3; simp only [Act.put, List.setIfInBounds_toArray, List.set_cons_zero, List.set_cons_succ])
    | ((with_reducible refine wpList_store_state (by rfl) (.tmp 3) (.tmp 7) (by rfl) M ⟨ta, tc, none, 0⟩ nt 0 (by with_unfolding_all rfl) (by with_unfolding_all rfl) Sv.none 0 0 (unhide HX3) ?_); intro W4 HX4 HE4; simp only [Act.put]; have HB4 : Hid (Below W2.heap.size W2 W4) := (by rw [unhide HE4, ← unhide HM]; exact belowRow (unhide HB3) (Nat.le_refl _) _); have HS4 : Hid (W4.heap.size = M + 1) := (by rw [unhide HE4]; exact (by simp [World.setRow] : (W3.setRow M _).heap.size = W3.heap.size).trans (unhide HS3)))
    | (go_at_call 88; refine (unhide HU1 W4 (Rd.below (unhide HT2).rd (unhide HB4))).mono ?_; rintro y W5 ⟨rfl, hr⟩; have HRT5 := hide hr; clear hr)
    | fail)
  have HNM : Hid (N < M) := by
    rw [unhide HM]
    have h1 := (unhide HT2).upd.size
    rw [unhide HS1] at h1
    exact Nat.lt_of_lt_of_le (Nat.lt_succ_self _) h1
  have HA4 : Hid (a < W4.heap.size) := by rw [unhide HS4]; have := unhide HAN; have := unhide HN; have := unhide HNM; show a < M + 1; omega
  have HM4 : Hid (M < W4.heap.size) := by rw [unhide HS4]; exact Nat.lt_succ_self _
  have HMA : Hid (M ≠ a) := by have := unhide HAN; have := unhide HN; have := unhide HNM; show M ≠ a; omega
  have HNA : Hid (N ≠ a) := by have := unhide HAN; have := unhide HN; show N ≠ a; omega
  have HT5 : Hid (Ts W4 W5 a M s p0 e0 ta tc nt [] none 0 0) := (⟨Rd.below (unhide HT2).rd (unhide HB4), W.Upd.refl _ _ _, OwnS.nil _ _, rfl, unhide HX4⟩ : Ts W4 W4 a M s q E ta tc nt [] none 0 0).step (unhide HRT5) (unhide HA4) (unhide HM4) (unhide HMA)
  have HD4 : Hid (OwnD W4 W1.heap.size L ta tc) := (unhide HT2).own.below (unhide HB4)
  have HDM : Hid (∀ g, (Value.slice ta L.length tc).ownBlock = some g → g ≠ M ∧ g ≠ a ∧ g < W4.heap.size ∧ N < g) := fun g hg => by
    have h1 := World.ownsRow.lt (unhide HT2).own g hg
    rw [← unhide HM, unhide HS1] at h1
    have := unhide HAN; have := unhide HN
    rw [unhide HS4]
    omega
  have HX1b : Hid (W4.heap[N]? = some (stRow Sv.none 0 0)) := by
    refine (((unhide HB4).block N (by rw [← unhide HM]; exact unhide HNM)).trans ?_)
    refine ((unhide HT2).upd.block N (by rw [unhide HS1]; exact Nat.lt_succ_self _) (unhide HNA) (unhide HNA)).trans (unhide HX1)
  have HUPD : Hid (W.Upd u W4 a a) := by
    have h1 : W.Upd u W1 a a := ⟨(unhide HB1).os, (unhide HB1).tape, (unhide HB1).output, (unhide HB1).size, fun k hk _ _ => (unhide HB1).block k (by rw [unhide HN]; exact hk)⟩
    exact Upd.belw (h1.trans (unhide HT2).upd (.inl rfl)) (unhide HB4)
  have HN4 : Hid (N < W4.heap.size) := by rw [unhide HS4]; have := unhide HNM; show N < M + 1; omega
  have HN1s : Hid (W1.heap.size = N + 1) := HS1
  clear HX1 HB1 HS1 HR1 HX3 HB3 HS3 HE4 HX4 HB4 HT2 HRT5 HVT HU1 HR
  go_loopw [4] (fun s4 wr => ∃ (acc : List Sb) (xo : Option Addr) (m n c p1 : Nat) (e1 : Int), s4 = .int .u64 (n : Int) ∧ Hid (acc.length + n ≤ 64) ∧ Hid (Ts W4 wr a M s p1 e1 ta tc nt acc xo c m) ∧ Hid (TT = (⟨L, acc ++ (tkXs s n p1 e1).1⟩, (tkXs s n p1 e1).2))) (fun s4 _ => (intOf s4).toNat)
  case atStart => exact ⟨[], none, 0, n0, 0, p0, e0, rfl, hide (by simp only [List.length_nil, Nat.zero_add]; exact unhide HL0), HT5, HTT⟩
  case round =>
    clear HT5 HTT HL0
    obtain ⟨acc, xo, m, n, c, p1, e1, rfl, HLN, HI, HT⟩ := hrel
    have hni : (n : Int) ≤ 64 := by have := unhide HLN; omega
    cases n with
    | zero =>
      have HTE : Hid (TT = (⟨L, acc⟩, p1, e1)) := by rw [unhide HT, tkXs_zero, List.append_nil]; exact rfl
      obtain ⟨z0, z1⟩ := st_cells (unhide HI).box
      have HX2 : Hid (wr.heap[N]? = some (stRow Sv.none 0 0)) := ((unhide HI).upd.block N (unhide HN4) (unhide HNA) (by have := unhide HNM; omega)).trans (unhide HX1b)
      go_wp2_with (first
        | ((with_reducible refine wpList_store_state (by rfl) (.tmp 2) (.tmp 26) (by rfl) N ⟨ta, tc, xo, c⟩ nt m (by with_unfolding_all rfl) (by with_unfolding_all rfl) Sv.none 0 0 (unhide HX2) ?_); intro V1 HV1 HEV; simp only [Act.put])
        | fail)
      have HOD : Hid (OwnD V1 N L ta tc) := by
        rw [unhide HEV]
        refine own_keep (own_down (unhide HD4) (by rw [unhide HN1s]; exact Nat.le_succ _)) fun g hg => ?_
        have h1 := unhide HDM g hg
        exact (heapRow_other _ _ _ _ (by omega)).trans ((unhide HI).upd.block g h1.2.2.1 h1.2.1 h1.1)
      have HOS : Hid (OwnS V1 N acc xo c) := by
        rw [unhide HEV]
        refine own_keep (own_down (unhide HI).sibs (Nat.le_of_lt (unhide HN4))) fun g hg => ?_
        have h1 := (World.ownsRow.lt (unhide HI).sibs g hg).1
        have := unhide HN4
        exact heapRow_other _ _ _ _ (by omega)
      have HRV : Hid (W.Rt u V1 a s p1 e1) := by
        rw [unhide HEV]
        refine ⟨(unhide HI).rd.same (by simp [World.setRow]) (heapRow_other _ _ _ _ (fun q => unhide HNA q.symm)), (unhide HI).upd.os.trans (unhide HUPD).os, (unhide HI).upd.tape.trans (unhide HUPD).tape, (unhide HI).upd.output.trans (unhide HUPD).output, by simpa [World.setRow] using Nat.le_trans (unhide HUPD).size (unhide HI).upd.size, fun k hk g1 g2 => ?_⟩
        have hkN : k < N := by rw [unhide HN]; exact hk
        have := unhide HNM
        have := unhide HN4
        exact (heapRow_other _ _ _ _ (by omega)).trans (((unhide HI).upd.block k (by omega) g1 (by omega)).trans ((unhide HUPD).block k hk g1 g2))
      refine bodyPost_ret (results_cell rfl _ _ N 25 #[.slice ta nt tc, .slice xo m c] (0, 0) _ rfl (unhide HV1) stateUnd rfl stateInfo) rfl ?_
      exact ⟨⟨ta, tc, xo, c⟩, nt, m, rfl, by rw [unhide HTE]; exact unhide HNT, by rw [unhide HTE]; exact (unhide HI).em, by rw [unhide HTE]; exact ⟨unhide HOD, unhide HOS⟩, by rw [unhide HTE]; exact unhide HRV⟩
    | succ n =>
      have HEE := hide (unhide HE wr p1 e1 (unhide HI).rd)
      obtain ⟨n1, hn1⟩ : ∃ n1, n1 = n + 1 := ⟨_, rfl⟩
      rw [← hn1] at hni HLN HT ⊢
      have hnp : (0 : Int) < (n1 : Int) := by omega
      by_cases he : e1 = 0
      · subst he
        have HTS := hide (tkXs_succ s n p1)
        rw [← hn1] at HTS
        have HX : Hid (∀ w : World, W.Rd w a s p1 0 → Calls Try.prog 90 #[.pointer (some ⟨a, 0, none⟩)] w fun y w' => ∃ v, y = .returned v ∧ v = (tkX s p1 0).1.v ∧ W.Rt w w' a s (tkX s p1 0).2.1 (tkX s p1 0).2.2) := fun w hw => asV (dTakeSib a s p1 0 w hw)
        generalize tkX s p1 0 = tx at *
        obtain ⟨x, px, ex⟩ := tx
        have HX : Hid (∀ w : World, W.Rd w a s p1 0 → Calls Try.prog 90 #[.pointer (some ⟨a, 0, none⟩)] w fun y w' => ∃ v, y = .returned v ∧ v = x.v ∧ W.Rt w w' a s px ex) := HX
        have HTS : Hid (tkXs s n1 p1 0 = (x :: (tkXs s n px ex).1, (tkXs s n px ex).2)) := HTS
        have HTE : Hid (TT = (⟨L, acc ++ [x] ++ (tkXs s n px ex).1⟩, (tkXs s n px ex).2)) := by
          rw [unhide HT, unhide HTS, List.append_assoc]; exact rfl
        have hsub2 : IntKind.u64.wrap ((n1 : Int) - 1) = (n : Int) := by rw [IntKind.wrap_u64]; omega
        have HN1 := hide hn1
        clear hn1 HT HTS
        go_wp2_with (first
          | (go_at_call 89; refine (unhide HEE).mono ?_; rintro y w1 ⟨rfl, hw1⟩; obtain rfl := hw1.symm; clear hw1)
          | fail)
        have hC : ∀ W : World, W.heap[M]? = some (stRow ⟨ta, tc, xo, c⟩ nt m) → W.cell? ⟨M, 1, none⟩ = some (.slice xo m c) := fun W hW => (st_cells hW).2
        refine wp_region_last (fun W => W.heap[M]? = some (stRow ⟨ta, tc, xo, c⟩ nt m)) 7 hmix (unhide HI).box fun hS => ?_
        have HI0 : Hid (Ts W4 wr.drew a M s p1 0 ta tc nt acc xo c m) := (unhide HI).belw (belowDrew (Below.refl _ _))
        generalize wr.drew = X0 at hS HI0 ⊢
        refine wpAnyL_take 0 19 (.pointer (some ⟨M, 1, none⟩)) [] rfl rfl (by kernel_rfl) (by kernel_rfl) (by kernel_rfl) (by kernel_rfl) (by kernel_rfl) (fun _ _ _ h => h) (by rfl) (fun _ _ => by go_simp) hS ?_
        simp only [Act.put, List.setIfInBounds_toArray, List.set_cons_zero, List.set_cons_succ]
        refine wpAnyL_take 1 20 (.slice xo m c) [] rfl rfl (by kernel_rfl) (by kernel_rfl) (by kernel_rfl) (by kernel_rfl) (by kernel_rfl) (fun _ _ _ h => h) (by rfl) (fun W hW => by have e1 := hC W hW; go_simp) hS ?_
        simp only [Act.put, List.setIfInBounds_toArray, List.set_cons_zero, List.set_cons_succ]
        refine wpAnyL_take 2 21 (.pointer (some ⟨a, 0, none⟩)) [] rfl rfl (by kernel_rfl) (by kernel_rfl) (by kernel_rfl) (by kernel_rfl) (by kernel_rfl) (fun _ _ _ h => h) (by rfl) (fun _ _ => by go_simp) hS ?_
        simp only [Act.put, List.setIfInBounds_toArray, List.set_cons_zero, List.set_cons_succ]
        refine wpAnyL_one (i := 3) (by kernel_rfl) rfl (by rfl) fun K hK => ?_
        refine wp_call_fn 90 _ _ (by rfl) #[.pointer (some ⟨a, 0, none⟩)] (by with_unfolding_all rfl) entTS (some 22) (by rfl) _ (unhide HX X0 (unhide HI0).rd) ?_
        rintro _ X1 ⟨rfl, hr⟩
        have HI1 := hide ((unhide HI0).step hr (unhide HA4) (unhide HM4) (unhide HMA))
        clear hr
        refine hK _ _ (fun _ => (unhide HI1).box) ?_
        clear hK K
        simp only [Act.put, List.setIfInBounds_toArray, List.set_cons_zero, List.set_cons_succ]
        refine wpAnyL_one (i := 4) (by kernel_rfl) rfl (by rfl) fun K hK => ?_
        refine wp_buildTo (by rfl) _ _ (by simp only [List.map_toArray, List.map_cons, List.map_nil]; exact bsS X1 x) (some 23) (by rfl) ?_
        have hbe : Below X1.heap.size X1 (X1.alloc (.cells #[.int .u32 (x.a : Int), .int .u64 (x.c : Int), .bool x.gone, .string x.val] 56)) := (Below.refl _ _).alloc (Nat.le_refl _) _
        have HI2 := hide ((unhide HI1).belw hbe)
        have HD6 := hide (Dw.one X1 x 56)
        generalize X1.alloc (.cells #[.int .u32 (x.a : Int), .int .u64 (x.c : Int), .bool x.gone, .string x.val] 56) = X2 at HI2 HD6 hbe ⊢
        clear hbe
        generalize X1.heap.size = B6 at HD6 ⊢
        refine hK _ _ (fun _ => (unhide HI2).box) ?_
        clear hK K
        simp only [Act.put, List.setIfInBounds_toArray, List.set_cons_zero, List.set_cons_succ]
        refine wpAnyL_one (i := 5) (by kernel_rfl) rfl (by rfl) fun K hK => ?_
        refine wp_putS (.tmp 20) (.tmp 23) (by rfl) (some 24) (by rfl) W4.heap.size acc [x] m 1 (unhide HI2).em rfl xo (some ⟨B6, 0, none⟩) c 1 (by rfl) (by rfl) (unhide HI2).sibs (unhide HD6) (by have := unhide HLN; simp only [List.length_cons, List.length_nil]; omega) (unhide HI2).upd.size ?_
        intro x7 n7 c7 X7 HN7 HO7 _ HBE7 _
        have HM7 : Hid (X7.heap[M]? = some (stRow ⟨ta, tc, xo, c⟩ nt m)) := ((unhide HBE7).block M (unhide HM4)).trans (unhide HI2).box
        refine hK _ _ (fun _ => unhide HM7) ?_
        clear hK K
        simp only [Act.put, List.setIfInBounds_toArray, List.set_cons_zero, List.set_cons_succ]
        refine wpAnyL_one (i := 6) (by kernel_rfl) rfl (by rfl) fun K hK => ?_
        refine wp_val (.pointer (some ⟨M, 1, none⟩)) (by go_simp) (some 25) (by rfl) ?_
        refine hK _ _ (fun _ => unhide HM7) ?_
        clear hK K
        simp only [Act.put, List.setIfInBounds_toArray, List.set_cons_zero, List.set_cons_succ]
        refine wpAnyL_one (i := 7) (by kernel_rfl) rfl (by rfl) fun K hK => ?_
        refine wp_store_sl 23 (.tmp 25) (.tmp 24) (by rfl) (by rfl) M 1 x7 n7 c7 (by rfl) (by rfl) (made_there (unhide HM7) (show 1 < 2 by decide)) (by kernel_rfl) ?_
        have HI8 := hide ((unhide HI2).grow (unhide HBE7) (unhide HO7) (unhide HN7) (unhide HA4) (unhide HM4) (unhide HMA))
        generalize X7.setCell ⟨M, 1, none⟩ (.slice x7 n7 c7) = X8 at HI8 ⊢
        refine hK _ _ (fun q => absurd rfl q) ?_
        clear hK K
        refine wpAnyL_done (by kernel_rfl) ?_ _
        go_wp2
        go_roundw
        case rel => exact ⟨acc ++ [x], x7, n7, n, c7, px, ex, rfl, hide (by have h1 := unhide HLN; have h2 := unhide HN1; rw [List.length_append]; have h3 : [x].length = 1 := rfl; omega), HI8, HTE⟩
        case measure => have := unhide HN1; simp [intOf]; omega
      · have HTE : Hid (TT = (⟨L, acc⟩, p1, e1)) := by rw [unhide HT, tkXs_err _ _ _ he, List.append_nil]; exact rfl
        have heb : (e1 == 0) = false := by simpa using he
        obtain ⟨z0, z1⟩ := st_cells (unhide HI).box
        have HX2 : Hid (wr.heap[N]? = some (stRow Sv.none 0 0)) := ((unhide HI).upd.block N (unhide HN4) (unhide HNA) (by have := unhide HNM; omega)).trans (unhide HX1b)
        go_wp2_with (first
          | (go_at_call 89; refine (unhide HEE).mono ?_; rintro y w1 ⟨rfl, hw1⟩; obtain rfl := hw1.symm; clear hw1)
          | ((with_reducible refine wpList_store_state (by rfl) (.tmp 2) (.tmp 26) (by rfl) N ⟨ta, tc, xo, c⟩ nt m (by with_unfolding_all rfl) (by with_unfolding_all rfl) Sv.none 0 0 (unhide HX2) ?_); intro V1 HV1 HEV; simp only [Act.put])
          | fail)
        have HOD : Hid (OwnD V1 N L ta tc) := by
          rw [unhide HEV]
          refine own_keep (own_down (unhide HD4) (by rw [unhide HN1s]; exact Nat.le_succ _)) fun g hg => ?_
          have h1 := unhide HDM g hg
          exact (heapRow_other _ _ _ _ (by omega)).trans ((unhide HI).upd.block g h1.2.2.1 h1.2.1 h1.1)
        have HOS : Hid (OwnS V1 N acc xo c) := by
          rw [unhide HEV]
          refine own_keep (own_down (unhide HI).sibs (Nat.le_of_lt (unhide HN4))) fun g hg => ?_
          have h1 := (World.ownsRow.lt (unhide HI).sibs g hg).1
          have := unhide HN4
          exact heapRow_other _ _ _ _ (by omega)
        have HRV : Hid (W.Rt u V1 a s p1 e1) := by
          rw [unhide HEV]
          refine ⟨(unhide HI).rd.same (by simp [World.setRow]) (heapRow_other _ _ _ _ (fun q => unhide HNA q.symm)), (unhide HI).upd.os.trans (unhide HUPD).os, (unhide HI).upd.tape.trans (unhide HUPD).tape, (unhide HI).upd.output.trans (unhide HUPD).output, by simpa [World.setRow] using Nat.le_trans (unhide HUPD).size (unhide HI).upd.size, fun k hk g1 g2 => ?_⟩
          have hkN : k < N := by rw [unhide HN]; exact hk
          have := unhide HNM
          have := unhide HN4
          exact (heapRow_other _ _ _ _ (by omega)).trans (((unhide HI).upd.block k (by omega) g1 (by omega)).trans ((unhide HUPD).block k hk g1 g2))
        refine bodyPost_ret (results_cell rfl _ _ N 25 #[.slice ta nt tc, .slice xo m c] (0, 0) _ rfl (unhide HV1) stateUnd rfl stateInfo) rfl ?_
        exact ⟨⟨ta, tc, xo, c⟩, nt, m, rfl, by rw [unhide HTE]; exact unhide HNT, by rw [unhide HTE]; exact (unhide HI).em, by rw [unhide HTE]; exact ⟨unhide HOD, unhide HOS⟩, by rw [unhide HTE]; exact unhide HRV⟩
end Go.Proofs.Ytbahfpcfjhifbaa
