/- Tokens: Cancel. -/
import Derived.Test.YtajbkgcgmkkpiaaCnm
namespace Go.Proofs.Ytajbkgcgmkkpiaa.C
open Go.RowKit Go.Lib Go.MuLone Go.Conc
section
variable {B : Nat} {W W' : World} {G : Geo} {Z : Nat → Dy} {m n : Nat}
theorem kEnd (h : Fk B W G Z m n) {i : Nat} (hi : i < n) (why : Int) (hw : ¬ why = 0) :
    Calls Try.prog 55 #[.pointer (some ⟨G.kb i, 0, none⟩), .int .i64 why] W fun e w' => e = .returned (.bool (decide ((Z i).why = 0))) ∧ Fk B w' G (endK Z i why) m n ∧ Fr B W w' ∧ Rk W w' := by
  by_cases hl : (Z i).why = 0
  · unfold endK
    rw [if_pos hl, decide_eq_true hl]
    exact kEndLive' h hi why hw hl
  · unfold endK
    rw [if_neg hl, decide_eq_false hl]
    exact kEndDead' h hi why hl
theorem Wf.nd {up : Nat → Nat} {Z : Nat → Dy} {n : Nat} (h : Wf up Z n) {x : Nat} (hx : x < n) : (Z x).un.Nodup := by
  rw [List.nodup_iff_pairwise_ne, List.pairwise_iff_getElem]
  intro a b ha hb hab e
  have h1 := (h.un x hx a _ (List.getElem?_eq_getElem ha)).2.2.2
  have h2 := (h.un x hx b _ (List.getElem?_eq_getElem hb)).2.2.2
  rw [e] at h1
  omega
theorem kLeaveW (h : Fk B W G Z n n) (hw : Wf G.up Z n) (hn : n < 6000000000000) {i : Nat} (hi : i < n) :
    Calls Try.prog 53 #[.pointer (some ⟨G.kb i, 0, none⟩)] W fun e w' => e = .returned (.tuple #[]) ∧ ∃ Y, Wo G.up Z Y n i ∧ (¬ (Z i).why = 0 → Y = Z) ∧ Fk B w' G Y n n ∧ Fr B W w' := by
  by_cases hr : G.up i = 0 ∨ ¬ (Z i).why = 0
  · refine (kLeaveNone h hi ?_).mono ?_
    · by_cases hl : (Z i).why = 0
      · rw [hw.abv i hi hl]; exact hr.resolve_right (fun e => e hl)
      · exact (hw.dead i hi hl).1
    · rintro e w' ⟨rfl, rfl⟩
      exact ⟨rfl, Z, hw.alone hi hr, fun _ => rfl, h, Fr.refl _ _⟩
  · have hl : (Z i).why = 0 := Classical.byContradiction fun e => hr (.inr e)
    obtain ⟨p, hp⟩ : ∃ p, G.up i = p + 1 := ⟨G.up i - 1, by have : G.up i ≠ 0 := fun e => hr (.inl e); omega⟩
    have hui := hw.uple i hi
    obtain ⟨_, hun⟩ := hw.live i hi hl p hp
    have hlen := (List.getElem?_eq_some_iff.1 hun).1
    obtain ⟨q, hq⟩ : ∃ q, (Z p).un.getLast? = some q := ⟨_, List.getLast?_eq_some_getLast (fun e => by rw [e] at hlen; simp at hlen)⟩
    have hq2 : (Z p).un[(Z p).un.length - 1]? = some q := by rw [← List.getLast?_eq_getElem?]; exact hq
    obtain ⟨q1, q2, _, _⟩ := hw.un p (by omega) _ q hq2
    have := hw.uple q q1
    have hnl := nodup_len n (Z p).un (hw.nd (by omega)) (fun x hx => by
      obtain ⟨a, ha⟩ := List.getElem?_of_mem hx
      exact (hw.un p (by omega) a x ha).1)
    refine (kLeave h hi (p := p) (q := q) (by omega) q1 (by omega) (by rw [hw.abv i hi hl, hp]) hun hq (by omega)).mono ?_
    rintro e w' ⟨rfl, h1, h2⟩
    exact ⟨rfl, _, hw.left hi hl hp hq, fun e => absurd hl e, h1, h2⟩
theorem own_rk {U V : World} {c : Nat} {l : List Nat} {ao : Option Addr} (h : KR.Own U B l ao c) (hr : Rk U V) : KR.Own V B l ao c := by
  refine S.own_keep h fun g hg => ?_
  rcases h.2 with ⟨hv, _⟩ | ⟨g', cap, cur, hv, _, hh, _⟩
  · rw [hv] at hg; cases hg
  · rw [hv] at hg
    obtain rfl : g' = g := Option.some.inj hg
    exact (hr _ _ _ hh).trans hh.symm
/-- the reason that is laid -/
def wy (why : Int) : Int := if why = 0 then 180 else why
theorem wy_ne (why : Int) : ¬ wy why = 0 := by unfold wy; split <;> omega
theorem kCancelNil (why : Int) (w : World) : Calls Try.prog 14 #[.pointer none, .int .i64 why] w fun e w' => e = .returned (.bool false) ∧ w' = w := by
  go_enter_defers Try.func14, Try.ntmps14
  go_wp2_with (go_at_call 49; refine (kNeverNil _).mono ?_; rintro e w' ⟨rfl, hw⟩; obtain rfl := hw.symm)
  exact ⟨_, results_tmp rfl _ _ _, rfl, rfl⟩
set_option maxRecDepth 100000 in
set_option maxHeartbeats 2000000 in
theorem kCancel0 (h : Fo B W G Z n) (hw : Wf G.up Z n) (hn : n < 6000000000000) {i : Nat} (hi : i < n)  :
    Calls Try.prog 14 #[.pointer (some ⟨G.tb i, 0, none⟩), .int .i64 0] W fun e w' => e = .returned (.bool (decide ((Z i).why = 0))) ∧
      ∃ Z', Wf G.up Z' n ∧ (∀ k, k < n → (Z' k).why = if (Z i).why = 0 ∧ (Z k).why = 0 ∧ anc G.up i k = true then 180 else (Z k).why) ∧ Fo B w' G Z' n ∧ Fr B W w' := by
  have hwv : ¬ (180 : Int) = 0 := by decide
  have hl := h.lk i hi
  have hlc : W.cell? ⟨G.lb i, 0, none⟩ = some (.int .i32 0) := (S.box2 hl).1
  have hlf := frz0 hl 0
  have hpt := h.fk.ptk hi
  have hpl : W.cell? ⟨G.kb i, 0, none⟩ = some (.pointer (some ⟨G.lb i, 0, none⟩)) := h.fk.cell hi rfl
  have hf1 := h.fk.other hl (by decide) (by decide) (by decide) 0 (.int .i32 1)
  have hpt1 := hf1.ptk hi
  have hpl1 : (W.setCell ⟨G.lb i, 0, none⟩ (.int .i32 1)).cell? ⟨G.kb i, 0, none⟩ = some (.pointer (some ⟨G.lb i, 0, none⟩)) := hf1.cell hi rfl
  have HNE := hide (kNever h.fk hi)
  have HLV := hide (kLeaveW hf1 hw hn hi)
  have HL := hide hl
  have HLO := hide ((h.fk.low i hi).2.1)
  have HW := hide hw
  have HN := hide hn
  have HI := hide hi
  have HLK := hide h.lk
  clear h hw hn hi hl hf1
  go_enter_defers Try.func14, Try.ntmps14
  go_wp2_with (first
    | (go_at_call 49; refine (unhide HNE).mono ?_; rintro e w' ⟨rfl, hw⟩; obtain rfl := hw.symm; clear HNE)
    | (go_at_call 50; refine (lock_free muLib ⟨G.lb i, 0, none⟩ _ hlc hlf).mono ?_; rintro e w' ⟨rfl, rfl⟩)
    | (go_at_call 53; refine (unhide HLV).mono ?_; rintro e X ⟨rfl, Y, hwo, hYZ, hX, hR⟩; have hx1 := hX.ptk (unhide HI); have HBW := hide (kBelow hX (hwo.wu (unhide HW).uple) (unhide HN) (unhide HI)); have HWO := hide hwo; have HYZ := hide hYZ; have HX := hide hX; have HR := hide hR; clear hwo hYZ hX hR HLV)
    | (go_at_call 54; refine (unhide HBW).mono ?_; rintro e X2 ⟨L, ao, c2, rfl, hbf, ho, hb⟩; have HF2 := hide ((unhide HX).below hb); have HR2 := hide ((unhide HR).trans (Fr.of hb)); have HBF := hide hbf; have HO := hide ho; clear hbf ho hb HBW; obtain ⟨Q, hQ⟩ : ∃ Q, Q = L.length := ⟨_, rfl⟩; rw [← hQ]; obtain ⟨q, hq⟩ : ∃ q, Q = q + 1 := ⟨Q - 1, by have := (List.getElem?_eq_some_iff.1 (unhide HBF).hd).1; omega⟩; have hqn : q < n := (by have := nodup_len n L (unhide HBF).nd (unhide HBF).lt; omega); have hwq : IntKind.i64.wrap ((Q : Int) - 1) = (q : Int) := (by have := unhide HN; rw [IntKind.wrap_i64]; omega); have hwq2 : wrap64 ((Q : Int) - 1) = (q : Int) := (by have := unhide HN; simp only [wrap64]; omega); have HQ := hide (show L.length = q + 1 by omega); have HQN := hide hqn; have HQQ := hide hq; clear hq hqn hQ))
  go_loopw [6] (fun s6 wr => ∃ j : Nat, j ≤ q ∧ s6 = .int .i64 (j : Int) ∧ Hid (Fk B wr G (endL Y (L.drop (j + 1)) 180) n n ∧ Fr B X2 wr ∧ Rk X2 wr)) (fun s6 _ => (intOf s6).toNat)
  case atStart =>
    refine ⟨q, Nat.le_refl _, rfl, ?_, Fr.refl _ _, fun _ _ _ h => h⟩
    rw [List.drop_eq_nil_of_le (by rw [unhide HQ]; exact Nat.le_refl _), endL_nil]
    exact unhide HF2
  case round =>
    obtain ⟨j, hj, rfl, HJ⟩ := hrel
    by_cases h0 : 0 < j
    · have hji : (0 : Int) < (j : Int) := by omega
      obtain ⟨hf, hr, hk⟩ := unhide HJ
      obtain ⟨x, hx⟩ : ∃ x, L[j]? = some x := ⟨_, List.getElem?_eq_getElem (by have := unhide HQ; omega)⟩
      have hxn := (unhide HBF).lt x (List.mem_of_getElem? hx)
      obtain ⟨g, rfl, hc, _⟩ := own_cell (own_rk (unhide HO) hk) (i := j) (by rw [List.length_map]; have := unhide HQ; omega)
      have hc2 : wr.cell? ⟨g, j, none⟩ = some (.pointer (some ⟨G.kb x, 0, none⟩)) := by
        rw [hc, List.getElem_map]
        rw [List.getElem?_eq_getElem (by have := unhide HQ; omega)] at hx
        rw [Option.some.inj hx]
      have HE := hide (kEnd hf hxn 180 hwv)
      have hjQ : (j : Int) < (Q : Int) := by have := unhide HQQ; omega
      have hix := fun w => KR.ix (P := Try.prog) g 0 Q c2 j (by omega) w
      have hdx : L.drop j = x :: L.drop (j + 1) := by
        have hjl := (List.getElem?_eq_some_iff.1 hx).1
        rw [List.drop_eq_getElem_cons hjl]
        rw [List.getElem?_eq_getElem hjl] at hx
        rw [Option.some.inj hx]
      have hnd : x ∉ L.drop (j + 1) := by
        have h1 := List.Sublist.nodup (List.drop_sublist j L) (unhide HBF).nd
        rw [hdx] at h1
        exact (List.nodup_cons.1 h1).1
      have HS := hide (endL_cons Y x (L.drop (j + 1)) 180 hnd)
      rw [← hdx] at HS
      have HRR := hide hr
      have HKK := hide hk
      have hwj : IntKind.i64.wrap ((j : Int) - 1) = ((j - 1 : Nat) : Int) := by have := unhide HN; have := unhide HQN; rw [IntKind.wrap_i64]; omega
      have HJ0 := hide h0
      have HJQ := hide hj
      clear hf hr hk hx hxn hc hdx hnd HJ hj h0
      go_wp2_with (go_at_call 55; refine (unhide HE).mono ?_; rintro e W4 ⟨rfl, hf4, hr4, hk4⟩; have H4 := hide hf4; have H5 := hide hr4; have H6 := hide hk4; clear hf4 hr4 hk4)
      go_roundw
      case rel =>
        have a1 := unhide HJ0
        have a2 := unhide HJQ
        refine ⟨j - 1, by omega, rfl, hide ⟨?_, (unhide HRR).trans (unhide H5), (unhide HKK).trans (unhide H6)⟩⟩
        have e : j - 1 + 1 = j := by omega
        rw [e, ← unhide HS]
        exact unhide H4
      case measure =>
        have := unhide HJ0
        simp [intOf]; omega
    · obtain rfl : j = 0 := by omega
      obtain ⟨hf, hr, hk⟩ := unhide HJ
      have hx3 := hf.ptk (unhide HI)
      have hd1 : L = i :: L.drop 1 := by
        have h0 := (unhide HBF).hd
        cases L with
        | nil => simp at h0
        | cons a l => simp at h0; rw [h0]; rfl
      have hnd : i ∉ L.drop 1 := by
        have h1 := (unhide HBF).nd
        rw [hd1] at h1
        exact (List.nodup_cons.1 h1).1
      have hwz : (endL Y (L.drop (0 + 1)) 180 i).why = (Z i).why := by
        have e : endL Y (L.drop (0 + 1)) 180 i = Y i := if_neg (fun e => hnd e.1)
        rw [e, (unhide HWO).why]
      have hE := kEnd hf (unhide HI) 180 hwv
      rw [hwz] at hE
      have hS := endL_cons Y i (L.drop 1) 180 hnd
      rw [← hd1] at hS
      have hC := (unhide HW).cancelled (unhide HWO) (unhide HI) (unhide HBF) (unhide HYZ) 180 hwv
      have HC := hide hC
      have HS := hide hS
      have HE := hide hE
      have HRR := hide hr
      clear hf hr hk hd1 hnd hwz hE hS hC HJ hj h0
      go_wp2_with (go_at_call 55; refine (unhide HE).mono ?_; rintro e W4 ⟨rfl, hf4, hr4, hk4⟩; have H4 := hide hf4; have H5 := hide hr4; clear hf4 hr4 hk4)
      obtain ⟨hq1, hq2⟩ := lock_fr (unhide HL) (unhide HLO) (((unhide HR2).trans (unhide HRR)).trans (unhide H5))
      refine leaves_cons (f := 51) (args := #[.pointer (some ⟨G.lb i, 0, none⟩)]) (by simp) (by simp [go_sem]) ?_
      refine (unlock_deferred muLib ⟨G.lb i, 0, none⟩ .returning _ (S.box2 hq2).1 (frz0 hq2 0)).mono ?_
      rintro e u' w'' ⟨rfl, rfl, rfl⟩
      refine ⟨_, results_tmp rfl _ _ _, rfl, endL Y L 180, (unhide HC).1, (unhide HC).2, ⟨?_, fun k hk => hq1.typ _ _ _ _ (unhide HLK k hk) (by decide) (by decide)⟩, hq1⟩
      have h4 := unhide H4
      rw [show L.drop (0 + 1) = L.drop 1 from rfl, unhide HS] at h4
      exact h4.other hq2 (by decide) (by decide) (by decide) 0 _
set_option maxRecDepth 100000 in
set_option maxHeartbeats 2000000 in
theorem kCancel1 (h : Fo B W G Z n) (hw : Wf G.up Z n) (hn : n < 6000000000000) {i : Nat} (hi : i < n) (why : Int) (hwy : ¬ why = 0) :
    Calls Try.prog 14 #[.pointer (some ⟨G.tb i, 0, none⟩), .int .i64 why] W fun e w' => e = .returned (.bool (decide ((Z i).why = 0))) ∧
      ∃ Z', Wf G.up Z' n ∧ (∀ k, k < n → (Z' k).why = if (Z i).why = 0 ∧ (Z k).why = 0 ∧ anc G.up i k = true then why else (Z k).why) ∧ Fo B w' G Z' n ∧ Fr B W w' := by
  have hwv : ¬ (why : Int) = 0 := hwy
  have hl := h.lk i hi
  have hlc : W.cell? ⟨G.lb i, 0, none⟩ = some (.int .i32 0) := (S.box2 hl).1
  have hlf := frz0 hl 0
  have hpt := h.fk.ptk hi
  have hpl : W.cell? ⟨G.kb i, 0, none⟩ = some (.pointer (some ⟨G.lb i, 0, none⟩)) := h.fk.cell hi rfl
  have hf1 := h.fk.other hl (by decide) (by decide) (by decide) 0 (.int .i32 1)
  have hpt1 := hf1.ptk hi
  have hpl1 : (W.setCell ⟨G.lb i, 0, none⟩ (.int .i32 1)).cell? ⟨G.kb i, 0, none⟩ = some (.pointer (some ⟨G.lb i, 0, none⟩)) := hf1.cell hi rfl
  have HNE := hide (kNever h.fk hi)
  have HLV := hide (kLeaveW hf1 hw hn hi)
  have HL := hide hl
  have HLO := hide ((h.fk.low i hi).2.1)
  have HW := hide hw
  have HN := hide hn
  have HI := hide hi
  have HLK := hide h.lk
  have hwe : (why == 0) = false := by simp [hwy]
  clear h hw hn hi hl hf1
  go_enter_defers Try.func14, Try.ntmps14
  go_wp2_with (first
    | (go_at_call 49; refine (unhide HNE).mono ?_; rintro e w' ⟨rfl, hw⟩; obtain rfl := hw.symm; clear HNE)
    | (go_at_call 50; refine (lock_free muLib ⟨G.lb i, 0, none⟩ _ hlc hlf).mono ?_; rintro e w' ⟨rfl, rfl⟩)
    | (go_at_call 53; refine (unhide HLV).mono ?_; rintro e X ⟨rfl, Y, hwo, hYZ, hX, hR⟩; have hx1 := hX.ptk (unhide HI); have HBW := hide (kBelow hX (hwo.wu (unhide HW).uple) (unhide HN) (unhide HI)); have HWO := hide hwo; have HYZ := hide hYZ; have HX := hide hX; have HR := hide hR; clear hwo hYZ hX hR HLV)
    | (go_at_call 54; refine (unhide HBW).mono ?_; rintro e X2 ⟨L, ao, c2, rfl, hbf, ho, hb⟩; have HF2 := hide ((unhide HX).below hb); have HR2 := hide ((unhide HR).trans (Fr.of hb)); have HBF := hide hbf; have HO := hide ho; clear hbf ho hb HBW; obtain ⟨Q, hQ⟩ : ∃ Q, Q = L.length := ⟨_, rfl⟩; rw [← hQ]; obtain ⟨q, hq⟩ : ∃ q, Q = q + 1 := ⟨Q - 1, by have := (List.getElem?_eq_some_iff.1 (unhide HBF).hd).1; omega⟩; have hqn : q < n := (by have := nodup_len n L (unhide HBF).nd (unhide HBF).lt; omega); have hwq : IntKind.i64.wrap ((Q : Int) - 1) = (q : Int) := (by have := unhide HN; rw [IntKind.wrap_i64]; omega); have hwq2 : wrap64 ((Q : Int) - 1) = (q : Int) := (by have := unhide HN; simp only [wrap64]; omega); have HQ := hide (show L.length = q + 1 by omega); have HQN := hide hqn; have HQQ := hide hq; clear hq hqn hQ))
  go_loopw [6] (fun s6 wr => ∃ j : Nat, j ≤ q ∧ s6 = .int .i64 (j : Int) ∧ Hid (Fk B wr G (endL Y (L.drop (j + 1)) why) n n ∧ Fr B X2 wr ∧ Rk X2 wr)) (fun s6 _ => (intOf s6).toNat)
  case atStart =>
    refine ⟨q, Nat.le_refl _, rfl, ?_, Fr.refl _ _, fun _ _ _ h => h⟩
    rw [List.drop_eq_nil_of_le (by rw [unhide HQ]; exact Nat.le_refl _), endL_nil]
    exact unhide HF2
  case round =>
    obtain ⟨j, hj, rfl, HJ⟩ := hrel
    by_cases h0 : 0 < j
    · have hji : (0 : Int) < (j : Int) := by omega
      obtain ⟨hf, hr, hk⟩ := unhide HJ
      obtain ⟨x, hx⟩ : ∃ x, L[j]? = some x := ⟨_, List.getElem?_eq_getElem (by have := unhide HQ; omega)⟩
      have hxn := (unhide HBF).lt x (List.mem_of_getElem? hx)
      obtain ⟨g, rfl, hc, _⟩ := own_cell (own_rk (unhide HO) hk) (i := j) (by rw [List.length_map]; have := unhide HQ; omega)
      have hc2 : wr.cell? ⟨g, j, none⟩ = some (.pointer (some ⟨G.kb x, 0, none⟩)) := by
        rw [hc, List.getElem_map]
        rw [List.getElem?_eq_getElem (by have := unhide HQ; omega)] at hx
        rw [Option.some.inj hx]
      have HE := hide (kEnd hf hxn why hwv)
      have hjQ : (j : Int) < (Q : Int) := by have := unhide HQQ; omega
      have hix := fun w => KR.ix (P := Try.prog) g 0 Q c2 j (by omega) w
      have hdx : L.drop j = x :: L.drop (j + 1) := by
        have hjl := (List.getElem?_eq_some_iff.1 hx).1
        rw [List.drop_eq_getElem_cons hjl]
        rw [List.getElem?_eq_getElem hjl] at hx
        rw [Option.some.inj hx]
      have hnd : x ∉ L.drop (j + 1) := by
        have h1 := List.Sublist.nodup (List.drop_sublist j L) (unhide HBF).nd
        rw [hdx] at h1
        exact (List.nodup_cons.1 h1).1
      have HS := hide (endL_cons Y x (L.drop (j + 1)) why hnd)
      rw [← hdx] at HS
      have HRR := hide hr
      have HKK := hide hk
      have hwj : IntKind.i64.wrap ((j : Int) - 1) = ((j - 1 : Nat) : Int) := by have := unhide HN; have := unhide HQN; rw [IntKind.wrap_i64]; omega
      have HJ0 := hide h0
      have HJQ := hide hj
      clear hf hr hk hx hxn hc hdx hnd HJ hj h0
      go_wp2_with (go_at_call 55; refine (unhide HE).mono ?_; rintro e W4 ⟨rfl, hf4, hr4, hk4⟩; have H4 := hide hf4; have H5 := hide hr4; have H6 := hide hk4; clear hf4 hr4 hk4)
      go_roundw
      case rel =>
        have a1 := unhide HJ0
        have a2 := unhide HJQ
        refine ⟨j - 1, by omega, rfl, hide ⟨?_, (unhide HRR).trans (unhide H5), (unhide HKK).trans (unhide H6)⟩⟩
        have e : j - 1 + 1 = j := by omega
        rw [e, ← unhide HS]
        exact unhide H4
      case measure =>
        have := unhide HJ0
        simp [intOf]; omega
    · obtain rfl : j = 0 := by omega
      obtain ⟨hf, hr, hk⟩ := unhide HJ
      have hx3 := hf.ptk (unhide HI)
      have hd1 : L = i :: L.drop 1 := by
        have h0 := (unhide HBF).hd
        cases L with
        | nil => simp at h0
        | cons a l => simp at h0; rw [h0]; rfl
      have hnd : i ∉ L.drop 1 := by
        have h1 := (unhide HBF).nd
        rw [hd1] at h1
        exact (List.nodup_cons.1 h1).1
      have hwz : (endL Y (L.drop (0 + 1)) why i).why = (Z i).why := by
        have e : endL Y (L.drop (0 + 1)) why i = Y i := if_neg (fun e => hnd e.1)
        rw [e, (unhide HWO).why]
      have hE := kEnd hf (unhide HI) why hwv
      rw [hwz] at hE
      have hS := endL_cons Y i (L.drop 1) why hnd
      rw [← hd1] at hS
      have hC := (unhide HW).cancelled (unhide HWO) (unhide HI) (unhide HBF) (unhide HYZ) why hwv
      have HC := hide hC
      have HS := hide hS
      have HE := hide hE
      have HRR := hide hr
      clear hf hr hk hd1 hnd hwz hE hS hC HJ hj h0
      go_wp2_with (go_at_call 55; refine (unhide HE).mono ?_; rintro e W4 ⟨rfl, hf4, hr4, hk4⟩; have H4 := hide hf4; have H5 := hide hr4; clear hf4 hr4 hk4)
      obtain ⟨hq1, hq2⟩ := lock_fr (unhide HL) (unhide HLO) (((unhide HR2).trans (unhide HRR)).trans (unhide H5))
      refine leaves_cons (f := 51) (args := #[.pointer (some ⟨G.lb i, 0, none⟩)]) (by simp) (by simp [go_sem]) ?_
      refine (unlock_deferred muLib ⟨G.lb i, 0, none⟩ .returning _ (S.box2 hq2).1 (frz0 hq2 0)).mono ?_
      rintro e u' w'' ⟨rfl, rfl, rfl⟩
      refine ⟨_, results_tmp rfl _ _ _, rfl, endL Y L why, (unhide HC).1, (unhide HC).2, ⟨?_, fun k hk => hq1.typ _ _ _ _ (unhide HLK k hk) (by decide) (by decide)⟩, hq1⟩
      have h4 := unhide H4
      rw [show L.drop (0 + 1) = L.drop 1 from rfl, unhide HS] at h4
      exact h4.other hq2 (by decide) (by decide) (by decide) 0 _
theorem kCancel (h : Fo B W G Z n) (hw : Wf G.up Z n) (hn : n < 6000000000000) {i : Nat} (hi : i < n) (why : Int) :
    Calls Try.prog 14 #[.pointer (some ⟨G.tb i, 0, none⟩), .int .i64 why] W fun e w' => e = .returned (.bool (decide ((Z i).why = 0))) ∧
      ∃ Z', Wf G.up Z' n ∧ (∀ k, k < n → (Z' k).why = if (Z i).why = 0 ∧ (Z k).why = 0 ∧ anc G.up i k = true then wy why else (Z k).why) ∧ Fo B w' G Z' n ∧ Fr B W w' := by
  by_cases e : why = 0
  · subst e
    exact kCancel0 h hw hn hi
  · have e2 : wy why = why := if_neg e
    rw [e2]
    exact kCancel1 h hw hn hi why e
end
end Go.Proofs.Ytajbkgcgmkkpiaa.C
