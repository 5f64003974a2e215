/- Sorting numbers of 64 bits: choosePivot. -/
import Derived.Test.YtopabadnbelegaaQSoe
import Derived.Sort.LotD4
namespace Go.Proofs.Ytopabadnbelegaa.K
open Go.RowKit Go.Lib
def hintN : Sort.Hint → Nat
  | .unknown => 0
  | .increasing => 1
  | .decreasing => 2
def hintS (s : Nat) : Nat := if s = 0 then 1 else if s = 12 then 2 else 0
theorem Sw.new {u : World} {g N : Nat} {t : TypeId} {d : Array (BitVec 64)} (h : Rw u g t N d) (x : TypeId) : Sw (u.alloc (.cells #[.int .i64 0] x)) (u.alloc (.cells #[.int .i64 0] x)) g u.heap.size t N d 0 := by
  have hg := h.lt
  have hx := heap_alloc_new u (.cells #[.int .i64 0] x)
  refine ⟨?_, Alt.refl _ _, by omega, ?_, ?_⟩
  · obtain ⟨cs, h1, h2, h3⟩ := h.row
    exact ⟨cs, heapOld _ h1, h2, h3⟩
  · exact S.arr_cell hx rfl
  · exact frz0 hx 0
theorem Sw.out {u w : World} {g N s : Nat} {t : TypeId} {d : Array (BitVec 64)} {o : Obj} (h : Sw (u.alloc o) w g u.heap.size t N d s) : So u w g t N d := by
  refine ⟨h.rw', h.alt.os, h.alt.tape, h.alt.output, ?_, fun k hk hkg => ?_⟩
  · have := h.alt.size
    simp only [World.alloc, Array.size_push] at this
    omega
  · have h1 : k < (u.alloc o).heap.size := by simp only [World.alloc, Array.size_push]; omega
    have h2 := h.alt.block k h1 (by omega)
    rw [h2]
    simp only [World.alloc]
    rw [Array.getElem?_push]
    rw [if_neg (by omega)]
theorem Sw.at' {u w : World} {g q N s : Nat} {t : TypeId} {d : Array (BitVec 64)} (h : Sw u w g q t N d s) : Sw w w g q t N d s := ⟨h.rw', Alt.refl _ _, h.ne, h.cell, h.frz⟩
theorem piv_small (d : Array (BitVec 64)) (a b : Nat) (h : b - a < 8) : Sort.choosePivot ltB d a b = (a + (b - a) / 4 * 2, .increasing) := by
  unfold Sort.choosePivot
  simp only [show ¬ (b - a ≥ 8) by omega, if_false, if_true]
theorem piv_mid (d : Array (BitVec 64)) (a b : Nat) (h : 8 ≤ b - a) (h2 : b - a < 50) (m : Nat × Nat) (hm : m = Sort.median ltB d (a + (b - a) / 4 * 1) (a + (b - a) / 4 * 2) (a + (b - a) / 4 * 3) 0) :
    (Sort.choosePivot ltB d a b).1 = m.1 ∧ hintN (Sort.choosePivot ltB d a b).2 = hintS m.2 := by
  unfold Sort.choosePivot hintS
  simp only [show b - a ≥ 8 by omega, show ¬ (b - a ≥ 50) by omega, if_false, if_true]
  rw [← hm]
  refine ⟨rfl, ?_⟩
  by_cases h0 : m.2 = 0
  · rw [if_pos h0, if_pos h0]; rfl
  · rw [if_neg h0, if_neg h0]
    by_cases h1 : m.2 = 12
    · rw [if_pos h1, if_pos h1]; rfl
    · rw [if_neg h1, if_neg h1]; rfl
theorem piv_big (d : Array (BitVec 64)) (a b : Nat) (h2 : 50 ≤ b - a) (r1 r2 r3 m : Nat × Nat) (h1 : r1 = Sort.medianAdjacent ltB d (a + (b - a) / 4 * 1) 0) (h3 : r2 = Sort.medianAdjacent ltB d (a + (b - a) / 4 * 2) r1.2)
    (h4 : r3 = Sort.medianAdjacent ltB d (a + (b - a) / 4 * 3) r2.2) (hm : m = Sort.median ltB d r1.1 r2.1 r3.1 r3.2) :
    (Sort.choosePivot ltB d a b).1 = m.1 ∧ hintN (Sort.choosePivot ltB d a b).2 = hintS m.2 := by
  unfold Sort.choosePivot hintS
  simp only [show b - a ≥ 8 by omega, show b - a ≥ 50 by omega, if_true]
  rw [← h1, ← h3, ← h4, ← hm]
  refine ⟨rfl, ?_⟩
  by_cases h0 : m.2 = 0
  · rw [if_pos h0, if_pos h0]; rfl
  · rw [if_neg h0, if_neg h0]
    by_cases h1 : m.2 = 12
    · rw [if_pos h1, if_pos h1]; rfl
    · rw [if_neg h1, if_neg h1]; rfl
theorem hintS_cases (s : Nat) : (s = 0 ∧ hintS s = 1) ∨ (s = 12 ∧ hintS s = 2) ∨ (¬ s = 0 ∧ ¬ s = 12 ∧ hintS s = 0) := by
  unfold hintS
  by_cases h : s = 0
  · exact .inl ⟨h, if_pos h⟩
  · by_cases h2 : s = 12
    · exact .inr (.inl ⟨h2, by rw [if_neg h, if_pos h2]⟩)
    · exact .inr (.inr ⟨h, h2, by rw [if_neg h, if_neg h2]⟩)
set_option maxRecDepth 100000 in
set_option maxHeartbeats 2000000 in
theorem kPiv (g c a b n N : Nat) (t : TypeId) (d : Array (BitVec 64)) (u : World) (h : Rw u g t N d) (hn : n = d.size) (hab : a < b) (hb : b ≤ n) (hm : n ≤ 17592186044416) : Calls Try.prog 58 #[.slice (some ⟨g, 0, none⟩) n c, .int .i64 (a : Int), .int .i64 (b : Int)] u fun e u' => e = .returned (.tuple #[.int .i64 ((Sort.choosePivot ltB d a b).1 : Int), .int .i64 (hintN (Sort.choosePivot ltB d a b).2 : Int)]) ∧ So u u' g t N d := by
  obtain ⟨L, hL⟩ : ∃ L, L = b - a := ⟨_, rfl⟩
  obtain ⟨Q, hQ⟩ : ∃ Q, Q = L / 4 := ⟨_, rfl⟩
  have hLi : (b : Int) - (a : Int) = (L : Int) := by omega
  have hq4 : (L : Int).tdiv 4 = (Q : Int) := by rw [Int.tdiv_eq_ediv_of_nonneg (by omega)]; omega
  have hai : (a : Int) ≤ 17592186044416 := by omega
  have hbi : (b : Int) ≤ 17592186044416 := by omega
  have hQb : (Q : Int) ≤ 17592186044416 := by omega
  have hLb : (L : Int) ≤ 17592186044416 := by omega
  have hq1 : IntKind.i64.wrap ((a : Int) + (Q : Int)) = (a : Int) + (Q : Int) := by rw [IntKind.wrap_i64]; omega
  have hq2 : IntKind.i64.wrap ((a : Int) + (Q : Int) * 2) = (a : Int) + (Q : Int) * 2 := by rw [IntKind.wrap_i64]; omega
  have hq3 : IntKind.i64.wrap ((a : Int) + (Q : Int) * 3) = (a : Int) + (Q : Int) * 3 := by rw [IntKind.wrap_i64]; omega
  have hw := Sw.new h 3
  have hout : ∀ w s, Sw (u.alloc (.cells #[.int .i64 0] 3)) w g u.heap.size t N d s → So u w g t N d := fun w s => Sw.out
  have HW := hide hw
  have HO := hide hout
  have HR := hide h
  have HQ := hide hQ
  have HL := hide hL
  have HN := hide hn
  have HB := hide hb
  have HM := hide hm
  have HC := hide hab
  clear h hw hout hQ hL hn hab hb hm
  by_cases h8 : L < 8
  · have h8i : ¬ (L : Int) ≥ 8 := by omega
    have hE : Hid (Sort.choosePivot ltB d a b = (a + Q * 2, .increasing)) := by
      show _ = _
      have e := piv_small d a b (by have := unhide HL; omega)
      rw [e, unhide HQ, unhide HL]
    have h0 : Hid (So u (u.alloc (.cells #[.int .i64 0] 3)) g t N d) := unhide HO _ 0 (unhide HW)
    have cq := (unhide HW).cell
    have fq := (unhide HW).frz
    clear h8
    go_enter Try.func58, Try.ntmps58
    go_wp2
    go_returns
    rw [unhide hE]
    exact ⟨by first | rfl | simp [hintN], unhide h0⟩
  · have h8i : (L : Int) ≥ 8 := by omega
    have hai2 : ((a + Q * 1 : Nat) : Int) = (a : Int) + (Q : Int) := by omega
    have haj2 : ((a + Q * 2 : Nat) : Int) = (a : Int) + (Q : Int) * 2 := by omega
    have hak2 : ((a + Q * 3 : Nat) : Int) = (a : Int) + (Q : Int) * 3 := by omega
    have hQn : 2 ≤ Q ∧ a + Q * 4 ≤ b := by have := unhide HL; have := unhide HQ; omega
    have hbn := unhide HB
    have hmn := unhide HM
    by_cases h50 : L < 50
    · have h50i : ¬ (L : Int) ≥ 50 := by omega
      obtain ⟨m, hm⟩ : ∃ m, m = Sort.median ltB d (a + Q * 1) (a + Q * 2) (a + Q * 3) 0 := ⟨_, rfl⟩
      have HE := hide (piv_mid d a b (by have := unhide HL; omega) (by have := unhide HL; omega) m (by rw [← unhide HL, ← unhide HQ]; exact hm))
      have K1 := hide (kMed g u.heap.size c (a + Q * 1) (a + Q * 2) (a + Q * 3) n N 0 t d _ (unhide HW) (unhide HN) (by omega) (by omega) (by omega) (by omega))
      rw [← hm, hai2, haj2, hak2] at K1
      obtain ⟨m1, m2⟩ := m
      dsimp only at K1 HE
      clear hm h50 h8 hai2 haj2 hak2 hQn hbn hmn HR
      rcases hintS_cases m2 with ⟨es, eh⟩ | ⟨es, eh⟩ | ⟨e0, e1, eh⟩
      · subst es
        rw [eh] at HE
        clear eh
        go_enter Try.func58, Try.ntmps58
        go_wp2_with (go_at_call 76; refine (unhide K1).mono ?_; rintro e1 w1 ⟨he1, H1⟩; obtain rfl := he1; replace H1 := hide H1; clear K1; have cq := (unhide H1).cell; have fq := (unhide H1).frz)
        have HF := hide (unhide HO w1 _ (unhide H1))
        go_returns
        rw [(unhide HE).1, (unhide HE).2]
        exact ⟨by first | rfl | simp, unhide HF⟩
      · subst es
        rw [eh] at HE
        clear eh
        go_enter Try.func58, Try.ntmps58
        go_wp2_with (go_at_call 76; refine (unhide K1).mono ?_; rintro e1 w1 ⟨he1, H1⟩; obtain rfl := he1; replace H1 := hide H1; clear K1; have cq := (unhide H1).cell; have fq := (unhide H1).frz)
        have HF := hide (unhide HO w1 _ (unhide H1))
        go_returns
        rw [(unhide HE).1, (unhide HE).2]
        exact ⟨by first | rfl | simp, unhide HF⟩
      · have e0i : ¬ (m2 : Int) = 0 := by omega
        have e1i : ¬ (m2 : Int) = 12 := by omega
        rw [eh] at HE
        clear eh e0 e1
        go_enter Try.func58, Try.ntmps58
        go_wp2_with (go_at_call 76; refine (unhide K1).mono ?_; rintro e1 w1 ⟨he1, H1⟩; obtain rfl := he1; replace H1 := hide H1; clear K1; have cq := (unhide H1).cell; have fq := (unhide H1).frz)
        have HF := hide (unhide HO w1 _ (unhide H1))
        go_returns
        rw [(unhide HE).1, (unhide HE).2]
        exact ⟨by first | rfl | simp, unhide HF⟩
    · have h50i : (L : Int) ≥ 50 := by omega
      obtain ⟨r1, hr1⟩ : ∃ r, r = Sort.medianAdjacent ltB d (a + Q * 1) 0 := ⟨_, rfl⟩
      obtain ⟨r2, hr2⟩ : ∃ r, r = Sort.medianAdjacent ltB d (a + Q * 2) r1.2 := ⟨_, rfl⟩
      obtain ⟨r3, hr3⟩ : ∃ r, r = Sort.medianAdjacent ltB d (a + Q * 3) r2.2 := ⟨_, rfl⟩
      obtain ⟨m, hm⟩ : ∃ m, m = Sort.median ltB d r1.1 r2.1 r3.1 r3.2 := ⟨_, rfl⟩
      have HE := hide (piv_big d a b (by have := unhide HL; omega) r1 r2 r3 m (by rw [← unhide HL, ← unhide HQ]; exact hr1) (by rw [← unhide HL, ← unhide HQ]; exact hr2) (by rw [← unhide HL, ← unhide HQ]; exact hr3) hm)
      have hQ12 : 12 ≤ Q := by have := unhide HQ; omega
      have s1 : r1.2 ≤ 3 := by rw [hr1]; exact Sort.medianAdjacent_count ltB d _ 0
      have s2 : r2.2 ≤ 6 := by rw [hr2]; exact Nat.le_trans (Sort.medianAdjacent_count ltB d _ _) (by omega)
      have s3 : r3.2 ≤ 9 := by rw [hr3]; exact Nat.le_trans (Sort.medianAdjacent_count ltB d _ _) (by omega)
      have b1 : r1.1 < n := by rw [hr1]; have := Sort.medianAdjacent_mem ltB d (a + Q * 1) 0; omega
      have b2 : r2.1 < n := by rw [hr2]; have := Sort.medianAdjacent_mem ltB d (a + Q * 2) r1.2; omega
      have b3 : r3.1 < n := by rw [hr3]; have := Sort.medianAdjacent_mem ltB d (a + Q * 3) r2.2; omega
      have K1 := hide (kMadj g u.heap.size c (a + Q * 1) n N 0 t d _ (unhide HW) (unhide HN) (by omega) (by omega) hmn (by omega))
      rw [← hr1, hai2] at K1
      have K2 := hide (fun (w : World) (hw : Sw w w g u.heap.size t N d r1.2) => kMadj g u.heap.size c (a + Q * 2) n N r1.2 t d w hw (unhide HN) (by omega) (by omega) hmn (by omega))
      rw [← hr2, haj2] at K2
      have K3 := hide (fun (w : World) (hw : Sw w w g u.heap.size t N d r2.2) => kMadj g u.heap.size c (a + Q * 3) n N r2.2 t d w hw (unhide HN) (by omega) (by omega) hmn (by omega))
      rw [← hr3, hak2] at K3
      have K4 := hide (fun (w : World) (hw : Sw w w g u.heap.size t N d r3.2) => kMed g u.heap.size c r1.1 r2.1 r3.1 n N r3.2 t d w hw (unhide HN) b1 b2 b3 (by omega))
      rw [← hm] at K4
      clear hr1 hr2 hr3 hm h50 h8 hai2 haj2 hak2 hQn hbn hmn HR s1 s2 s3 b1 b2 b3 hQ12
      obtain ⟨x1, z1⟩ := r1
      obtain ⟨x2, z2⟩ := r2
      obtain ⟨x3, z3⟩ := r3
      obtain ⟨m1, m2⟩ := m
      dsimp only at K1 K2 K3 K4 HE
      rcases hintS_cases m2 with ⟨es, eh⟩ | ⟨es, eh⟩ | ⟨e0, e1, eh⟩
      · subst es
        rw [eh] at HE
        clear eh
        go_enter Try.func58, Try.ntmps58
        go_wp2_with (go_at_call 75; refine (unhide K1).mono ?_; rintro e1 w1 ⟨he1, H1⟩; obtain rfl := he1; replace H1 := hide H1; clear K1)
        refine (unhide K2 w1 (unhide H1).at').mono ?_
        rintro e2 w2 ⟨he2, H2⟩
        obtain rfl := he2
        replace H2 := hide ((unhide H1).then H2)
        clear K2 H1
        go_wp2_with (go_at_call 75; refine (unhide K3 w2 (unhide H2).at').mono ?_; rintro e3 w3 ⟨he3, H3⟩; obtain rfl := he3; replace H3 := hide ((unhide H2).then H3); clear K3 H2)
        go_wp2_with (go_at_call 76; refine (unhide K4 w3 (unhide H3).at').mono ?_; rintro e4 w4 ⟨he4, H4⟩; obtain rfl := he4; replace H4 := hide ((unhide H3).then H4); clear K4 H3; have cq := (unhide H4).cell; have fq := (unhide H4).frz)
        have HF := hide (unhide HO w4 _ (unhide H4))
        go_returns
        rw [(unhide HE).1, (unhide HE).2]
        exact ⟨by first | rfl | simp, unhide HF⟩
      · subst es
        rw [eh] at HE
        clear eh
        go_enter Try.func58, Try.ntmps58
        go_wp2_with (go_at_call 75; refine (unhide K1).mono ?_; rintro e1 w1 ⟨he1, H1⟩; obtain rfl := he1; replace H1 := hide H1; clear K1)
        refine (unhide K2 w1 (unhide H1).at').mono ?_
        rintro e2 w2 ⟨he2, H2⟩
        obtain rfl := he2
        replace H2 := hide ((unhide H1).then H2)
        clear K2 H1
        go_wp2_with (go_at_call 75; refine (unhide K3 w2 (unhide H2).at').mono ?_; rintro e3 w3 ⟨he3, H3⟩; obtain rfl := he3; replace H3 := hide ((unhide H2).then H3); clear K3 H2)
        go_wp2_with (go_at_call 76; refine (unhide K4 w3 (unhide H3).at').mono ?_; rintro e4 w4 ⟨he4, H4⟩; obtain rfl := he4; replace H4 := hide ((unhide H3).then H4); clear K4 H3; have cq := (unhide H4).cell; have fq := (unhide H4).frz)
        have HF := hide (unhide HO w4 _ (unhide H4))
        go_returns
        rw [(unhide HE).1, (unhide HE).2]
        exact ⟨by first | rfl | simp, unhide HF⟩
      · have e0i : ¬ (m2 : Int) = 0 := by omega
        have e1i : ¬ (m2 : Int) = 12 := by omega
        rw [eh] at HE
        clear eh e0 e1
        go_enter Try.func58, Try.ntmps58
        go_wp2_with (go_at_call 75; refine (unhide K1).mono ?_; rintro e1 w1 ⟨he1, H1⟩; obtain rfl := he1; replace H1 := hide H1; clear K1)
        refine (unhide K2 w1 (unhide H1).at').mono ?_
        rintro e2 w2 ⟨he2, H2⟩
        obtain rfl := he2
        replace H2 := hide ((unhide H1).then H2)
        clear K2 H1
        go_wp2_with (go_at_call 75; refine (unhide K3 w2 (unhide H2).at').mono ?_; rintro e3 w3 ⟨he3, H3⟩; obtain rfl := he3; replace H3 := hide ((unhide H2).then H3); clear K3 H2)
        go_wp2_with (go_at_call 76; refine (unhide K4 w3 (unhide H3).at').mono ?_; rintro e4 w4 ⟨he4, H4⟩; obtain rfl := he4; replace H4 := hide ((unhide H3).then H4); clear K4 H3; have cq := (unhide H4).cell; have fq := (unhide H4).frz)
        have HF := hide (unhide HO w4 _ (unhide H4))
        go_returns
        rw [(unhide HE).1, (unhide HE).2]
        exact ⟨by first | rfl | simp, unhide HF⟩
end Go.Proofs.Ytopabadnbelegaa.K
