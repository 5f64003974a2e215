/- Sorting numbers of 64 bits: order2, median, medianAdjacent. -/
import Derived.Test.YtopabadnbelegaaQSod
namespace Go.Proofs.Ytopabadnbelegaa.K
open Go.RowKit Go.Lib
/-- where the counting of swaps stands: the row as it was, one number in a block of its own -/
structure Sw (u w : World) (g q : Nat) (t : TypeId) (N : Nat) (d : Array (BitVec 64)) (sw : Nat) : Prop where
  rw' : Rw w g t N d
  alt : Alt u w q
  ne : g ≠ q
  cell : w.cell? ⟨q, 0, none⟩ = some (.int .i64 (sw : Int))
  frz : w.frozen? ⟨q, 0, none⟩ = false
theorem Sw.drewN {u w : World} {g q : Nat} {t : TypeId} {N : Nat} {d : Array (BitVec 64)} {sw : Nat} (h : Sw u w g q t N d sw) (z : Nat) : Sw u (w.drewN z) g q t N d sw := ⟨h.rw'.drewN z, h.alt.drewN z, h.ne, h.cell, h.frz⟩
theorem Sw.drew {u w : World} {g q : Nat} {t : TypeId} {N : Nat} {d : Array (BitVec 64)} {sw : Nat} (h : Sw u w g q t N d sw) : Sw u w.drew g q t N d sw := ⟨h.rw'.drew, h.alt.drew, h.ne, h.cell, h.frz⟩
theorem Sw.then {u w v : World} {g q : Nat} {t : TypeId} {N : Nat} {d : Array (BitVec 64)} {s1 s2 : Nat} (h : Sw u w g q t N d s1) (k : Sw w v g q t N d s2) : Sw u v g q t N d s2 := ⟨k.rw', h.alt.trans k.alt, h.ne, k.cell, k.frz⟩
theorem Sw.put {u w : World} {g q : Nat} {t : TypeId} {N : Nat} {d : Array (BitVec 64)} {sw : Nat} (h : Sw u w g q t N d sw) (x : Nat) : Sw u (w.setCell ⟨q, 0, none⟩ (.int .i64 (x : Int))) g q t N d x := by
  refine ⟨h.rw'.alt ((Alt.refl w q).cell 0 _) h.ne, h.alt.cell 0 _, h.ne, ?_, ?_⟩
  · exact World.cell?_setCell_same _ _ _ h.cell
  · have := h.frz
    simpa using this
set_option maxRecDepth 100000 in
set_option maxHeartbeats 4000000 in
theorem kOrd (g q c a b n N sw : Nat) (t : TypeId) (d : Array (BitVec 64)) (u : World) (h : Sw u u g q t N d sw) (hn : n = d.size) (ha : a < n) (hb : b < n) (hs : sw ≤ 1000) : Calls Try.prog 83 #[.slice (some ⟨g, 0, none⟩) n c, .int .i64 (a : Int), .int .i64 (b : Int), .pointer (some ⟨q, 0, none⟩)] u fun e u' => e = .returned (.tuple #[.int .i64 ((Sort.order2 ltB d a b sw).1 : Int), .int .i64 ((Sort.order2 ltB d a b sw).2.1 : Int)]) ∧ Sw u u' g q t N d (Sort.order2 ltB d a b sw).2.2 := by
  have ixa := ixW g n c a ha
  have ixb := ixW g n c b hb
  obtain ⟨c0, f0⟩ := h.rw'.cell a (hn ▸ ha)
  obtain ⟨c1, f1⟩ := h.rw'.cell b (hn ▸ hb)
  have cq := h.cell
  have fq := h.frz
  have HS := hide h
  have hsi : (sw : Int) ≤ 1000 := by omega
  unfold Sort.order2
  have HL := hide (fun w => kLess d[b]! d[a]! w)
  generalize d[a]! = y0 at *
  generalize d[b]! = y1 at *
  have HP := hide (fun z => ((unhide HS).drewN z).put (sw + 1))
  cases hl : ltB y1 y0 with
  | true =>
    rw [hl] at HL
    rw [if_pos rfl]
    clear h hn ha hb hs hl
    go_enter Try.func83, Try.ntmps83
    go_wp2
    go_quiet (first | exact Calls.quiet_of_same (unhide HL _) | fail)
    go_wp2
    go_returns
    exact ⟨rfl, unhide HP nq⟩
  | false =>
    rw [hl] at HL
    rw [if_neg (by simp)]
    clear h hn ha hb hs hl
    go_enter Try.func83, Try.ntmps83
    go_wp2
    go_quiet (first | exact Calls.quiet_of_same (unhide HL _) | fail)
    go_wp2
    go_returns
    exact ⟨rfl, (unhide HS).drewN nq⟩
theorem ord_in (d : Array (BitVec 64)) (a b sw : Nat) (P : Nat → Prop) (ha : P a) (hb : P b) : P (Sort.order2 ltB d a b sw).1 ∧ P (Sort.order2 ltB d a b sw).2.1 := by
  unfold Sort.order2
  split
  · exact ⟨hb, ha⟩
  · exact ⟨ha, hb⟩
theorem ord_sw (d : Array (BitVec 64)) (a b sw : Nat) : (Sort.order2 ltB d a b sw).2.2 ≤ sw + 1 := by
  unfold Sort.order2
  split
  · exact Nat.le_refl _
  · exact Nat.le_succ _
set_option maxRecDepth 100000 in
set_option maxHeartbeats 1000000 in
theorem kMed (g q c a b e n N sw : Nat) (t : TypeId) (d : Array (BitVec 64)) (u : World) (h : Sw u u g q t N d sw) (hn : n = d.size) (ha : a < n) (hb : b < n) (he : e < n) (hs : sw ≤ 990) : Calls Try.prog 76 #[.slice (some ⟨g, 0, none⟩) n c, .int .i64 (a : Int), .int .i64 (b : Int), .int .i64 (e : Int), .pointer (some ⟨q, 0, none⟩)] u fun r u' => r = .returned (.int .i64 ((Sort.median ltB d a b e sw).1 : Int)) ∧ Sw u u' g q t N d (Sort.median ltB d a b e sw).2 := by
  obtain ⟨r1, hr1⟩ : ∃ r1, r1 = Sort.order2 ltB d a b sw := ⟨_, rfl⟩
  obtain ⟨r2, hr2⟩ : ∃ r2, r2 = Sort.order2 ltB d r1.2.1 e r1.2.2 := ⟨_, rfl⟩
  obtain ⟨r3, hr3⟩ : ∃ r3, r3 = Sort.order2 ltB d r1.1 r2.1 r2.2.2 := ⟨_, rfl⟩
  have hme : Sort.median ltB d a b e sw = (r3.2.1, r3.2.2) := by unfold Sort.median; rw [hr3, hr2, hr1]
  rw [hme]
  have b1 := ord_in d a b sw (· < n) ha hb
  have s1 := ord_sw d a b sw
  rw [← hr1] at b1 s1
  have b2 := ord_in d r1.2.1 e r1.2.2 (· < n) b1.2 he
  have s2 := ord_sw d r1.2.1 e r1.2.2
  rw [← hr2] at b2 s2
  have K1 := hide (kOrd g q c a b n N sw t d u h hn ha hb (by omega))
  rw [← hr1] at K1
  have K2 := hide (fun (w : World) (hw : Sw w w g q t N d r1.2.2) => kOrd g q c r1.2.1 e n N r1.2.2 t d w hw hn b1.2 he (by omega))
  rw [← hr2] at K2
  have K3 := hide (fun (w : World) (hw : Sw w w g q t N d r2.2.2) => kOrd g q c r1.1 r2.1 n N r2.2.2 t d w hw hn b1.1 b2.1 (by omega))
  rw [← hr3] at K3
  clear hme hr1 hr2 hr3 b1 b2 s1 s2 h hn ha hb he hs
  obtain ⟨x1, y1, z1⟩ := r1
  obtain ⟨x2, y2, z2⟩ := r2
  obtain ⟨x3, y3, z3⟩ := r3
  dsimp only at K1 K2 K3 ⊢
  go_enter Try.func76, Try.ntmps76
  go_wp2_with (go_at_call 83; refine (unhide K1).mono ?_; rintro e1 w1 ⟨he1, H1⟩; obtain rfl := he1; replace H1 := hide H1; clear K1)
  refine (unhide K2 w1 ⟨(unhide H1).rw', Alt.refl _ _, (unhide H1).ne, (unhide H1).cell, (unhide H1).frz⟩).mono ?_
  rintro e2 w2 ⟨he2, H2⟩
  obtain rfl := he2
  replace H2 := hide ((unhide H1).then H2)
  clear K2 H1
  go_wp2_with (go_at_call 83; refine (unhide K3 w2 ⟨(unhide H2).rw', Alt.refl _ _, (unhide H2).ne, (unhide H2).cell, (unhide H2).frz⟩).mono ?_; rintro e3 w3 ⟨he3, H3⟩; obtain rfl := he3; replace H3 := hide ((unhide H2).then H3); clear K3)
  go_ret
  exact ⟨by simp, unhide H3⟩
set_option maxRecDepth 100000 in
set_option maxHeartbeats 1000000 in
theorem kMadj (g q c a n N sw : Nat) (t : TypeId) (d : Array (BitVec 64)) (u : World) (h : Sw u u g q t N d sw) (hn : n = d.size) (h1 : 1 ≤ a) (ha : a + 1 < n) (hm : n ≤ 17592186044416) (hs : sw ≤ 990) : Calls Try.prog 75 #[.slice (some ⟨g, 0, none⟩) n c, .int .i64 (a : Int), .pointer (some ⟨q, 0, none⟩)] u fun r u' => r = .returned (.int .i64 ((Sort.medianAdjacent ltB d a sw).1 : Int)) ∧ Sw u u' g q t N d (Sort.medianAdjacent ltB d a sw).2 := by
  have K1 := hide (kMed g q c (a - 1) a (a + 1) n N sw t d u h hn (by omega) (by omega) ha hs)
  have e1 : ((a - 1 : Nat) : Int) = (a : Int) - 1 := by omega
  have e2 : ((a + 1 : Nat) : Int) = (a : Int) + 1 := by omega
  rw [e1, e2] at K1
  have hw1 : IntKind.i64.wrap ((a : Int) - 1) = (a : Int) - 1 := by rw [IntKind.wrap_i64]; omega
  have hw2 : IntKind.i64.wrap ((a : Int) + 1) = (a : Int) + 1 := by rw [IntKind.wrap_i64]; omega
  unfold Sort.medianAdjacent
  clear h hn h1 ha hm hs e1 e2
  generalize Sort.median ltB d (a - 1) a (a + 1) sw = r at *
  obtain ⟨x, y⟩ := r
  dsimp only at K1 ⊢
  go_enter Try.func75, Try.ntmps75
  go_wp2_with (go_at_call 76; refine (unhide K1).mono ?_; rintro e1 w1 ⟨he1, H1⟩; obtain rfl := he1; replace H1 := hide H1; clear K1)
  go_ret
  exact ⟨by simp, unhide H1⟩
end Go.Proofs.Ytopabadnbelegaa.K
