/- Nodes: Decode of a leaf's body. -/
import Derived.Test.YtppmpomfihalfaaNt
namespace Go.Proofs.Ytppmpomfihalfaa
open Go.RowKit

theorem U1.below0 {w w' : World} {A B : Nat} (h : U1 w w' A) (hB : B ≤ A) (hw : B ≤ w.heap.size) : Below B w w' := ⟨h.os, h.tape, h.output, h.size, fun k hk => h.block k (by omega) (by omega)⟩
set_option maxRecDepth 100000 in
set_option maxHeartbeats 4000000 in
theorem nTakeNode (s : ByteArray) (A : Nat) (w : World) (h : W.Rd w A s 0 0) (hb : W.fixS s 0 0 1 = (1, 1, 0)) (C P1 : Nat) (E1 : Int) (hf : W.fixS s 1 0 2 = (C, P1, E1)) (L : List Cl) (p : Nat) (e1 : Int) (hL : leafL s C P1 E1 = (L, p, e1)) :
    Calls Try.prog 80 #[.pointer (some ⟨A, 0, none⟩)] w fun e w' => ∃ ao c, e = .returned (.agg #[.bool true, .slice ao L.length c, .slice none 0 0, .slice none 0 0]) ∧ W.Rd w' A s p e1 ∧ U1 w w' A ∧ Lies w' ao (flatC L) ∧ L.length ≤ c ∧ ∀ b o, ao = some ⟨b, o, none⟩ → w.heap.size ≤ b := by
  have H1 : Hid (∀ v, W.Rd v A s 0 0 → Calls Try.prog 116 #[.pointer (some ⟨A, 0, none⟩)] v fun y w' => y = .returned (.int .u8 1) ∧ W.Rt v w' A s 1 0) := fun v hv => by
    have := W.rByte A s 0 0 v hv
    rw [hb] at this
    exact this
  have H2 : Hid (∀ v, W.Rd v A s 1 0 → Calls Try.prog 117 #[.pointer (some ⟨A, 0, none⟩)] v fun e w' => ∃ ao c, e = .returned (.agg #[.bool true, .slice ao L.length c, .slice none 0 0, .slice none 0 0]) ∧ W.Rd w' A s p e1 ∧ U1 v w' A ∧ Lies w' ao (flatC L) ∧ L.length ≤ c ∧ ∀ b o, ao = some ⟨b, o, none⟩ → v.heap.size ≤ b) := fun v hv => by
    have := nTakeLeaf s 1 0 A v hv
    rw [hf] at this
    simp only [hL] at this
    exact this
  have HR := hide h
  obtain ⟨N, hN⟩ : ∃ N, N = w.heap.size := ⟨_, rfl⟩
  have HN := hide hN
  clear h hb hf hL hN
  generalize L.length = ln at *
  generalize flatC L = fl at *
  go_enter Try.func80, Try.ntmps80
  go_wp2_with (first
    | (with_reducible refine wpList_alloc_node (by rfl) (by rfl) (some 2) (by rfl) N (unhide HN) ?_; intro W1 HX1 HW1 HS1; simp only [Act.put, List.setIfInBounds_toArray, List.set_cons_zero, List.set_cons_succ])
    | fail)
  have HR1 : Hid (W.Rd W1 A s 0 0 ∧ U1 w W1 A ∧ A < N) := by
    have hb := unhide HW1
    rw [unhide HN] at hb ⊢
    exact ⟨(unhide HR).same hb.size (hb.block A (unhide HR).lt), U1.below' hb, (unhide HR).lt⟩
  clear HW1 HS1 HR
  refine (unhide H1 W1 (unhide HR1).1).mono ?_
  rintro e W2 ⟨rfl, hr2⟩
  have HR2 : Hid (W.Rd W2 A s 1 0 ∧ U1 w W2 A ∧ A < N) := ⟨hr2.1, (unhide HR1).2.1.trans ⟨hr2.2.os, hr2.2.tape, hr2.2.output, hr2.2.size, fun k hk hn => hr2.2.block k hk hn hn⟩, (unhide HR1).2.2⟩
  have HX2 := hide ((hr2.2.block N (Array.getElem?_eq_some_iff.1 (unhide HX1)).1 (by have := (unhide HR1).2.2; omega) (by have := (unhide HR1).2.2; omega)).trans (unhide HX1))
  clear hr2 HR1 HX1
  go_wp2_with fail
  refine (unhide H2 W2 (unhide HR2).1).mono ?_
  rintro e W3 ⟨ao, c, rfl, h1, h2, h3, h4, h5⟩
  have hN2 : N < W2.heap.size := (Array.getElem?_eq_some_iff.1 (unhide HX2)).1
  have HX3 := hide ((h2.block N hN2 (by have := (unhide HR2).2.2; omega)).trans (unhide HX2))
  have HF3 : Hid (W.Rd W3 A s p e1 ∧ U1 w W3 A ∧ Lies W3 ao fl ∧ ln ≤ c ∧ A < N ∧ ∀ b o, ao = some ⟨b, o, none⟩ → N < b) := ⟨h1, (unhide HR2).2.1.trans h2, h3, h4, (unhide HR2).2.2, fun b o e => by have := h5 b o e; omega⟩
  clear h1 h2 h3 h4 h5 hN2 HX2 HR2
  go_wp2_with (first
    | (with_reducible refine wpList_store_node (by rfl) (.tmp 2) (.tmp 8) (by rfl) N true ao ln c none 0 0 none 0 0 (by with_unfolding_all rfl) (by with_unfolding_all rfl) (unhide HX3) ?_; intro W8 HX8 HE8; simp only [Act.put])
    | fail)
  have HB8 : Hid (Below N W3 W8) := by rw [unhide HE8]; exact belowRow (Below.refl _ _) (Nat.le_refl _) _
  have HF8 : Hid (W.Rd W8 A s p e1 ∧ U1 w W8 A ∧ Lies W8 ao fl) := by
    have hf := unhide HF3
    have hb := unhide HB8
    refine ⟨hf.1.same hb.size (hb.block A hf.2.2.2.2.1), ⟨hb.os.trans hf.2.1.os, hb.tape.trans hf.2.1.tape, hb.output.trans hf.2.1.output, Nat.le_trans hf.2.1.size hb.size, fun k hk hn => (hb.block k (by rw [unhide HN]; exact hk)).trans (hf.2.1.block k hk hn)⟩, ?_⟩
    rw [unhide HE8]
    exact hf.2.2.1.setRow N _ fun b o e => by have := hf.2.2.2.2.2 b o e; omega
  clear HE8
  go_wp2
  refine bodyPost_ret (results_cell rfl _ _ N 26 #[.bool true, .slice ao ln c, .slice none 0 0, .slice none 0 0] (0, 0) _ rfl (unhide HX8) nodeUnd rfl nodeInfo) rfl ?_
  exact ⟨ao, c, rfl, (unhide HF8).1, (unhide HF8).2.1, (unhide HF8).2.2, (unhide HF3).2.2.2.1, fun b o e => by have := (unhide HF3).2.2.2.2.2 b o e; have := unhide HN; omega⟩
set_option maxRecDepth 100000 in
set_option maxHeartbeats 4000000 in
/-- Decode of a leaf that may be -/
theorem nDecodeLeaf (s : ByteArray) (hs : s.size ≤ 996) (hb : W.fixS s 0 0 1 = (1, 1, 0)) (C P1 : Nat) (E1 : Int) (hf : W.fixS s 1 0 2 = (C, P1, E1)) (L : List Cl) (p : Nat) (e1 : Int) (hL : leafL s C P1 E1 = (L, p, e1)) (hend : W.endE s.size p e1 = 0) (hok : Nd.Ok ⟨true, L, [], []⟩) (u : World) :
    Calls Try.prog 26 #[.string s] u fun e u' => ∃ ao c, e = .returned (.tuple #[.agg #[.bool true, .slice ao L.length c, .slice none 0 0, .slice none 0 0], .int .i64 0]) ∧ NdAt u' ⟨true, L, [], []⟩ ⟨ao, c, none, 0, none, 0⟩ ∧ Below u.heap.size u u' := by
  have H1 := hide (fun (v : World) (A : Nat) (hv : W.Rd v A s 0 0) => nTakeNode s A v hv hb C P1 E1 hf L p e1 hL)
  have H2 : Hid (∀ (v : World) (A : Nat), W.Rd v A s p e1 → Calls Try.prog 81 #[.pointer (some ⟨A, 0, none⟩)] v fun x w' => x = .returned (.int .i64 0) ∧ ∃ n, w' = v.drewN n) := fun v A hv => by
    have := W.rEnd A s p e1 v hv
    rw [hend] at this
    exact this
  have HNA : Hid (∀ (v : World) (ao : Option Addr) (c : Nat), Lies v ao (flatC L) → L.length ≤ c → NdAt v ⟨true, L, [], []⟩ ⟨ao, c, none, 0, none, 0⟩) := fun v ao c hl hc => ⟨hl, Lies.nil _ _, Lies.nil _ _, fun k hk => (by cases hk), ⟨by have := hok.lens.1; show L.length ≤ _; have : L.length ≤ 1992 := this; omega, by simp, by simp⟩, fun x hx => by have := hok.small.1 x hx; have h2 := this.2; exact ⟨by omega, by omega⟩, ⟨hc, by simp, by simp⟩⟩
  have H3 : Hid (∀ (v : World) (ao : Option Addr) (c : Nat), Lies v ao (flatC L) → L.length ≤ c → Calls Try.prog 18 #[.agg #[.bool true, .slice ao L.length c, .slice none 0 0, .slice none 0 0]] v fun e u' => e = .returned (.int .i64 0) ∧ Below v.heap.size v u') := fun v ao c hl hc => by
    have := nCheck ⟨true, L, [], []⟩ ⟨ao, c, none, 0, none, 0⟩ v (unhide HNA v ao c hl hc)
    rw [Nd.check_zero.2 hok] at this
    exact this
  obtain ⟨N, hN⟩ : ∃ N, N = u.heap.size := ⟨_, rfl⟩
  have HN := hide hN
  have hsi : ¬ (996 : Int) < (s.size : Int) := by omega
  have HSZ := hide hs
  rw [← hN]
  clear hN hb hf hL hend hok hs
  generalize flatC L = fl at *
  go_enter Try.func26, Try.ntmps26
  go_wp2_with (first
    | (with_reducible refine wpList_alloc_node (by rfl) (by rfl) (some 2) (by rfl) N (unhide HN) ?_; intro W1 HX1 HW1 HS1; simp only [Act.put, List.setIfInBounds_toArray, List.set_cons_zero, List.set_cons_succ])
    | fail)
  refine (W.rNew s W1).mono ?_
  rintro e W2 ⟨rfl, hw2⟩
  have hr2 := W.Rd.new s W1 123 (by have := unhide HSZ; omega)
  rw [← hw2] at hr2
  have HX2 : Hid (W2.heap[N]? = some (.cells #[.bool false, .slice none 0 0, .slice none 0 0, .slice none 0 0] 26 (0, 0))) := by rw [hw2]; exact (Below.heap_alloc W1 _ N (by rw [unhide HS1]; omega)).trans (unhide HX1)
  have HB2 : Hid (Below N u W2) := by rw [hw2]; exact (unhide HW1).alloc (by rw [unhide HS1]; omega) _
  have HZ2 : Hid (W1.heap.size = N + 1 ∧ W2.heap.size = N + 2) := ⟨unhide HS1, by rw [hw2]; simp [unhide HS1]⟩
  rw [unhide HS1] at hr2 ⊢
  have HR2 := hide hr2
  clear hr2 hw2 HX1 HW1 HS1
  go_wp2_with fail
  refine (unhide H1 W2 (N + 1) (unhide HR2)).mono ?_
  rintro e W3 ⟨ao, c, rfl, h1, h2, h3, h4, h5⟩
  have HR3 := hide h1
  have HX3 := hide ((h2.block N (by have := (unhide HZ2).2; omega) (by omega)).trans (unhide HX2))
  have HB3 : Hid (Below N u W3) := (unhide HB2).trans (h2.below0 (by omega) (by have := (unhide HZ2).2; omega))
  have HL3 := hide h3
  have HC3 := hide h4
  have HA3 : Hid (∀ b o, ao = some ⟨b, o, none⟩ → N + 2 ≤ b) := fun b o e => by have := h5 b o e; have := (unhide HZ2).2; omega
  obtain ⟨M, hM⟩ : ∃ M, M = W3.heap.size := ⟨_, rfl⟩
  have HM := hide hM
  have HMN : Hid (N + 2 ≤ M) := by
    have : N + 2 ≤ M := by rw [hM]; have := (unhide HZ2).2; have := h2.size; omega
    exact this
  clear h1 h2 h3 h4 h5 HX2 HB2 HR2 HZ2 hM
  go_wp2_with (first
    | (with_reducible refine wpList_alloc_node (by rfl) (by rfl) (some 5) (by rfl) M (unhide HM) ?_; intro W4 HX4 HW4 HS4; simp only [Act.put, List.setIfInBounds_toArray, List.set_cons_zero, List.set_cons_succ])
    | (with_reducible refine wpList_store_node (by rfl) (.tmp 5) (.tmp 13) (by rfl) M true ao L.length c none 0 0 none 0 0 (by with_unfolding_all rfl) (by with_unfolding_all rfl) (unhide HX4) ?_; intro W5 HX5 HE5; simp only [Act.put])
    | fail)
  have HB5 : Hid (Below M W3 W5) := by rw [unhide HE5]; exact belowRow (unhide HW4) (Nat.le_refl _) _
  have HR5 : Hid (W.Rd W5 (N + 1) s p e1 ∧ Lies W5 ao fl ∧ Below N u W5 ∧ W5.heap[N]? = some (.cells #[.bool false, .slice none 0 0, .slice none 0 0, .slice none 0 0] 26 (0, 0))) := by
    have hb := unhide HB5
    have hmn := unhide HMN
    refine ⟨(unhide HR3).same hb.size (hb.block _ (by omega)), (unhide HL3).below (by rw [← unhide HM]; exact hb), (unhide HB3).trans (hb.mono (by omega)), (hb.block N (by omega)).trans (unhide HX3)⟩
  clear HX4 HW4 HS4 HE5 HB5 HR3 HL3 HB3 HX3
  refine (unhide H2 W5 (N + 1) (unhide HR5).1).mono ?_
  rintro e W6 ⟨rfl, q6, rfl⟩
  have HR6 : Hid (Lies (W5.drewN q6) ao fl ∧ Below N u (W5.drewN q6) ∧ (W5.drewN q6).heap[N]? = some (.cells #[.bool false, .slice none 0 0, .slice none 0 0, .slice none 0 0] 26 (0, 0)) ∧ (W5.drewN q6).heap[M]? = some (.cells #[.bool true, .slice ao L.length c, .slice none 0 0, .slice none 0 0] 26 (0, 0))) := ⟨(unhide HR5).2.1.below (belowDrewN (Below.refl _ _) _), belowDrewN (unhide HR5).2.2.1 _, (unhide HR5).2.2.2, unhide HX5⟩
  generalize W5.drewN q6 = W6 at *
  clear HR5 HX5
  obtain ⟨y0, y1, y2, y3⟩ := box4 (unhide HR6).2.2.2
  go_wp2_with fail
  refine (unhide H3 W6 ao c (unhide HR6).1 (unhide HC3)).mono ?_
  rintro e W7 ⟨rfl, hb7⟩
  have hmn := unhide HMN
  have HZ6 : Hid (M < W6.heap.size) := (Array.getElem?_eq_some_iff.1 (unhide HR6).2.2.2).1
  have HR7 : Hid (Lies W7 ao fl ∧ Below N u W7 ∧ W7.heap[N]? = some (.cells #[.bool false, .slice none 0 0, .slice none 0 0, .slice none 0 0] 26 (0, 0)) ∧ W7.heap[M]? = some (.cells #[.bool true, .slice ao L.length c, .slice none 0 0, .slice none 0 0] 26 (0, 0))) := ⟨(unhide HR6).1.below hb7, (unhide HR6).2.1.trans (hb7.mono (by have := unhide HZ6; omega)), (hb7.block N (by have := unhide HZ6; omega)).trans (unhide HR6).2.2.1, (hb7.block M (unhide HZ6)).trans (unhide HR6).2.2.2⟩
  clear hb7 HR6 y0 y1 y2 y3 HZ6 hmn
  obtain ⟨y0, y1, y2, y3⟩ := box4 (unhide HR7).2.2.2
  go_wp2_with (first
    | (with_reducible refine wpList_store_node (by rfl) (.tmp 2) (.tmp 23) (by rfl) N true ao L.length c none 0 0 none 0 0 (by with_unfolding_all rfl) (by with_unfolding_all rfl) (unhide HR7).2.2.1 ?_; intro W8 HX8 HE8; simp only [Act.put])
    | fail)
  have HF8 : Hid (NdAt W8 ⟨true, L, [], []⟩ ⟨ao, c, none, 0, none, 0⟩ ∧ Below N u W8) := by
    rw [unhide HE8]
    exact ⟨unhide HNA _ _ _ ((unhide HR7).1.setRow N _ fun b o e => by have := unhide HA3 b o e; omega) (unhide HC3), belowRow (unhide HR7).2.1 (Nat.le_refl _) _⟩
  clear HE8
  go_wp2
  refine bodyPost_ret (results_cell_tmp rfl _ _ N 26 #[.bool true, .slice ao L.length c, .slice none 0 0, .slice none 0 0] (0, 0) _ rfl (unhide HX8) nodeUnd rfl nodeInfo) rfl ?_
  exact ⟨ao, c, rfl, (unhide HF8).1, (unhide HF8).2⟩
end Go.Proofs.Ytppmpomfihalfaa
