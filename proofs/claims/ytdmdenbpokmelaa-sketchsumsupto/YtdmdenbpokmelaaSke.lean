/- Sketches: an item laid. -/
import Derived.Test.YtdmdenbpokmelaaSkd
namespace Go.Proofs.Ytdmdenbpokmelaa.K
open Go.RowKit Go.Lib
/-- a row holds these cells, from its first on -/
def Hol (cs : Array Value) (l : List Ce) : Prop := ∀ (j : Nat) v, (RC.flat l)[j]? = some v → cs[j]? = some v
theorem at1_at (l : List Ce) (i : Nat) (c : Ce) (hi : i < l.length) (hi2 : i < (at1 l i c).length) : (at1 l i c)[i] = l[i].add c := by
  have h := at1_get l i c i
  rw [List.getElem?_eq_getElem hi2, List.getElem?_eq_getElem hi, if_pos rfl] at h
  simpa using h
theorem at1_ne (l : List Ce) (i : Nat) (c : Ce) (q : Nat) (hq : q < l.length) (hq2 : q < (at1 l i c).length) (h : i ≠ q) : (at1 l i c)[q] = l[q] := by
  have h := at1_get l i c q
  rw [List.getElem?_eq_getElem hq2, List.getElem?_eq_getElem hq, if_neg (by assumption)] at h
  simpa [Ce.add_zer] using h
theorem Hol.get {cs : Array Value} {l : List Ce} (h : Hol cs l) (i : Nat) (hi : i < l.length) : cs[i * 3]? = some (.int .i16 l[i].c.toInt) ∧ cs[i * 3 + 1]? = some (.int .u64 l[i].x.toNat) ∧ cs[i * 3 + 2]? = some (.int .u32 l[i].k.toNat) := by
  have h0 := RC.flat_get l i hi 0 (by decide)
  have h1 := RC.flat_get l i hi 1 (by decide)
  have h2 := RC.flat_get l i hi 2 (by decide)
  exact ⟨h _ _ h0, h _ _ h1, h _ _ h2⟩
theorem Hol.at1 {cs : Array Value} {l : List Ce} (h : Hol cs l) (i : Nat) (hi : i < l.length) (c : Ce) : Hol (((cs.setIfInBounds (i * 3) (.int .i16 (l[i].add c).c.toInt)).setIfInBounds (i * 3 + 1) (.int .u64 (l[i].add c).x.toNat)).setIfInBounds (i * 3 + 2) (.int .u32 (l[i].add c).k.toNat)) (at1 l i c) := by
  intro j v hv
  have hj := (List.getElem?_eq_some_iff.1 hv).1
  rw [RC.flat_len, at1_len] at hj
  have hj3 : j < l.length * 3 := hj
  obtain ⟨q, f, hq, hf, rfl⟩ : ∃ q f, q < l.length ∧ f < 3 ∧ j = q * 3 + f := ⟨j / 3, j % 3, by omega, by omega, by omega⟩
  have hq2 : q < (K.at1 l i c).length := by rw [at1_len]; exact hq
  have h3 := RC.flat_get (K.at1 l i c) q hq2 f hf
  have h3' : (RC.flat (K.at1 l i c))[q * 3 + f]? = (ceL (K.at1 l i c)[q])[f]? := h3
  rw [h3'] at hv
  have hs : i * 3 + 2 < cs.size := by
    have := (Array.getElem?_eq_some_iff.1 (h.get i hi).2.2).1
    exact this
  by_cases e : i = q
  · subst e
    rw [at1_at l i c hi hq2] at hv
    rcases (by omega : f = 0 ∨ f = 1 ∨ f = 2) with rfl | rfl | rfl
    · have hv' : Value.int .i16 (l[i].add c).c.toInt = v := by simpa [ceL] using hv
      rw [Array.getElem?_setIfInBounds_ne (by omega), Array.getElem?_setIfInBounds_ne (by omega), Nat.add_zero, Array.getElem?_setIfInBounds_self_of_lt (by omega), hv']
    · have hv' : Value.int .u64 (l[i].add c).x.toNat = v := by simpa [ceL] using hv
      rw [Array.getElem?_setIfInBounds_ne (by omega), Array.getElem?_setIfInBounds_self_of_lt (by simp; omega), hv']
    · have hv' : Value.int .u32 (l[i].add c).k.toNat = v := by simpa [ceL] using hv
      rw [Array.getElem?_setIfInBounds_self_of_lt (by simp; omega), hv']
  · rw [at1_ne l i c q hq hq2 e] at hv
    rw [Array.getElem?_setIfInBounds_ne (by omega), Array.getElem?_setIfInBounds_ne (by omega), Array.getElem?_setIfInBounds_ne (by omega)]
    exact h _ _ ((RC.flat_get l q hq f hf).trans hv)
/-- a sketch in memory -/
structure Sk (w : World) (a g cap : Nat) (l : List Ce) : Prop where
  box : w.heap[a]? = some (.cells #[.slice (some ⟨g, 0, none⟩) l.length cap] 53 (0, 0))
  row : ∃ cs t, w.heap[g]? = some (.cells cs t (0, 0)) ∧ Hol cs l
  ne : a ≠ g
  h3 : 3 ≤ l.length
  hm : l.length ≤ 256
  hc : l.length ≤ cap
theorem Sk.alt {u w : World} {a g cap b : Nat} {l : List Ce} (h : Sk u a g cap l) (hb : Alt u w b) (h1 : a ≠ b) (h2 : g ≠ b) : Sk w a g cap l := by
  obtain ⟨cs, t, hr, hh⟩ := h.row
  exact ⟨(hb.block _ (Array.getElem?_eq_some_iff.1 h.box).1 h1).trans h.box, ⟨cs, t, (hb.block _ (Array.getElem?_eq_some_iff.1 hr).1 h2).trans hr, hh⟩, h.ne, h.h3, h.hm, h.hc⟩
theorem Sk.below {u w : World} {a g cap : Nat} {l : List Ce} (h : Sk u a g cap l) (hb : Below u.heap.size u w) : Sk w a g cap l := by
  obtain ⟨cs, t, hr, hh⟩ := h.row
  exact ⟨(hb.block _ (Array.getElem?_eq_some_iff.1 h.box).1).trans h.box, ⟨cs, t, (hb.block _ (Array.getElem?_eq_some_iff.1 hr).1).trans hr, hh⟩, h.ne, h.h3, h.hm, h.hc⟩
/-- one cell of a sketch -/
theorem kOverS (a g cap : Nat) (l : List Ce) (i : Nat) (hi : i < l.length) (c : Ce) (u : World) (h : Sk u a g cap l) :
    Calls Try.prog 26 #[.pointer (some ⟨g, i * 3, none⟩), .agg (ceL c).toArray] u fun e u' => e = .returned (.tuple #[]) ∧ Alt u u' g ∧ Sk u' a g cap (at1 l i c) := by
  obtain ⟨cs, t, hr, hh⟩ := h.row
  obtain ⟨g0, g1, g2⟩ := hh.get i hi
  refine (kOver g (i * 3) cs t l[i] c u hr g0 g1 g2).mono ?_
  rintro e u' ⟨rfl, ha, hb⟩
  refine ⟨rfl, ha, ?_⟩
  exact ⟨by rw [at1_len]; exact (ha.block _ (Array.getElem?_eq_some_iff.1 h.box).1 h.ne).trans h.box, ⟨_, t, hb, hh.at1 i hi c⟩, h.ne, by rw [at1_len]; exact h.h3, by rw [at1_len]; exact h.hm, by rw [at1_len]; exact h.hc⟩
/-- the first of an item's places -/
def layU (l : List Ce) (x : BitVec 64) (c : BitVec 16) : Nat → List Ce
  | 0 => l
  | j + 1 => at1 (layU l x c j) (plc x l.length j) (cel x c)
theorem layU_len (l : List Ce) (x : BitVec 64) (c : BitVec 16) : ∀ j, (layU l x c j).length = l.length
  | 0 => by unfold layU; rfl
  | j + 1 => by unfold layU; rw [at1_len]; exact layU_len l x c j
theorem layU_all (l : List Ce) (x : BitVec 64) (c : BitVec 16) : layU l x c 3 = layB l x c := by
  unfold layB
  rw [layU, layU, layU, layU]
theorem layU_to {w : World} {a g cap : Nat} {L1 L2 L3 : List Ce} (h : Sk w a g cap L1) (h1 : L2 = L1) (h2 : L2 = L3) : Sk w a g cap L3 := by rw [← h2, h1]; exact h
theorem run_index_pl (x : BitVec 64) (n i : Nat) (hi : i < 3) (w : World) : (Instr.index 75 (.agg (plA x n)) (.int .i64 (i : Int))).run Try.prog w = .ok (.int .i64 (plc x n i)) w := by
  have hu := Try.underlying75
  have hz : (Try.prog.info? 3).map (fun i => (i.zero, i.size, i.bytes)) = some (some (.int .i64 0), 1, 8) := by kernel_rfl
  obtain ⟨i0, hq, hz0, hz1, hz2⟩ := info_parts hz
  have hc : (plA x n)[i]? = some (.int .i64 (plc x n i)) := by
    rcases (by omega : i = 0 ∨ i = 1 ∨ i = 2) with rfl | rfl | rfl <;> (unfold plA; exact rfl)
  simp [Instr.index, go_sem, run_underlying hu, sizeOf, typeInfo, hq, hz1]
  rw [if_pos hi, hc]
  rfl
set_option maxRecDepth 100000 in
set_option maxHeartbeats 2000000 in
theorem kLay (a g cap : Nat) (l : List Ce) (x : BitVec 64) (c : BitVec 16) (u : World) (h : Sk u a g cap l) :
    Calls Try.prog 24 #[.pointer (some ⟨a, 0, none⟩), .int .u64 x.toNat, .int .i16 c.toInt] u fun e u' => e = .returned (.tuple #[]) ∧ Alt u u' g ∧ Sk u' a g cap (layB l x c) := by
  obtain ⟨n, hn⟩ : ∃ n, n = l.length := ⟨_, rfl⟩
  have HH := hide h
  have HN := hide hn
  have h3 : 3 ≤ n := by rw [hn]; exact h.h3
  have hm : n ≤ 256 := by rw [hn]; exact h.hm
  have hlt : ¬ (n : Int) < 3 := by omega
  have z0 := S.cell_one h.box
  rw [← hn] at z0
  have HC := hide (kChk x)
  have HP := hide (kPlaces x n h3 hm)
  have HPL := hide (fun j (hj : j < 3) => plc_lt x n j h3 hj)
  obtain ⟨M, hM⟩ : ∃ M, M = u.heap.size := ⟨_, rfl⟩
  have z1 : (u.alloc (.cells #[.int .i16 c.toInt, .int .u64 x.toNat, .int .u32 (chk x).toNat] 57)).cell? ⟨a, 0, none⟩ = some (.slice (some ⟨g, 0, none⟩) n cap) := by
    have := S.cell_one (heapOld (.cells #[.int .i16 c.toInt, .int .u64 x.toNat, .int .u32 (chk x).toNat] 57) h.box)
    rw [← hn] at this
    exact this
  have HX0 := hide (heap_alloc_new u (.cells #[.int .i16 c.toInt, .int .u64 x.toNat, .int .u32 (chk x).toNat] 57))
  have HB0 := hide ((Below.refl u.heap.size u).alloc (Nat.le_refl _) (.cells #[.int .i16 c.toInt, .int .u64 x.toNat, .int .u32 (chk x).toNat] 57))
  have HS0 := hide (World.size_alloc u (.cells #[.int .i16 c.toInt, .int .u64 x.toNat, .int .u32 (chk x).toNat] 57))
  have HGM := hide (show g < M by obtain ⟨cs, t, hr, hh⟩ := h.row; rw [hM]; exact (Array.getElem?_eq_some_iff.1 hr).1)
  have HAM := hide (show a < M by rw [hM]; exact (Array.getElem?_eq_some_iff.1 h.box).1)
  have HMM := hide hM
  rw [← hM] at HX0 HB0 HS0
  clear h hn h3 hm hM
  go_enter Try.func24, Try.ntmps24
  go_wp2_with (first
    | (go_at_call 39; refine (unhide HC _).mono ?_; rintro e wq ⟨rfl, hwq⟩; obtain rfl := hwq.symm; clear HC)
    | (go_at_call 40; refine (unhide HP _).mono ?_; rintro e W1 ⟨rfl, hb⟩; have HB := hide hb; clear hb)
    | fail)
  have HB1 := hide (unhide HB)
  generalize u.alloc (.cells #[.int .i16 c.toInt, .int .u64 x.toNat, .int .u32 (chk x).toNat] 57) = U0 at *
  have HX1 := hide (S.box_below (unhide HX0) (unhide HB1))
  have HA1 : Hid (Alt u W1 g) := by
    have h1 := (unhide HB0)
    rw [unhide HMM] at h1
    exact Alt.of g (h1.trans ((unhide HB1).mono (h1.size)))
  have HK1 := hide ((unhide HH).below (by have h1 := unhide HB0; rw [unhide HMM] at h1; exact h1.trans ((unhide HB1).mono h1.size)))
  rw [← unhide HMM]
  clear HX0 HB0 HS0 HB HB1 HH z0 z1 HP
  go_loopw [31] (fun v wr => ∃ i : Nat, i ≤ 3 ∧ v = .int .i64 i ∧ Hid (Sk wr a g cap (layU l x c i)) ∧ Hid (Alt u wr g) ∧ Hid (wr.heap[M]? = some (.cells #[.int .i16 c.toInt, .int .u64 x.toNat, .int .u32 (chk x).toNat] 57 (0, 0)))) (fun v _ => 3 - (intOf v).toNat)
  case atStart => exact ⟨0, by omega, rfl, HK1, HA1, HX1⟩
  case round =>
    clear HX1 HA1 HK1
    obtain ⟨i, hi, rfl, HK, HA, HX⟩ := hrel
    by_cases hlt : i < 3
    · have hii : (i : Int) < 3 := by omega
      have hx := run_index_pl x n i hlt
      have hpn := unhide HPL i hlt
      have HU := hide (show layU l x c (i + 1) = at1 (layU l x c i) (plc x n i) (cel x c) by rw [unhide HN, layU])
      have HL := hide (layU_len l x c i)
      obtain ⟨L2, hL2⟩ : ∃ L2, L2 = layU l x c (i + 1) := ⟨_, rfl⟩
      have HE2 := hide hL2
      rw [← hL2] at HU
      clear hL2
      generalize layU l x c i = L1 at *
      generalize plc x n i = p at *
      generalize plA x n = A at *
      have zb := S.cell_one (unhide HK).box
      have n0 := S.arr_cell (unhide HX) (show (#[.int .i16 c.toInt, .int .u64 x.toNat, .int .u32 (chk x).toNat] : Array Value)[0]? = some (.int .i16 c.toInt) from rfl)
      have n1 := S.arr_cell (unhide HX) (show (#[.int .i16 c.toInt, .int .u64 x.toNat, .int .u32 (chk x).toNat] : Array Value)[1]? = some (.int .u64 x.toNat) from rfl)
      have n2 := S.arr_cell (unhide HX) (show (#[.int .i16 c.toInt, .int .u64 x.toNat, .int .u32 (chk x).toNat] : Array Value)[2]? = some (.int .u32 (chk x).toNat) from rfl)
      rw [unhide HL, ← unhide HN] at zb
      have hix : ∀ W : World, (Instr.indexAt 32 (.slice (some ⟨g, 0, none⟩) n cap) (.int .i64 (p : Int))).run Try.prog W = .ok (.pointer (some ⟨g, p * 3, none⟩)) W := fun W => by
        have h := RC.ix g 0 n cap p hpn W
        rw [Nat.zero_add] at h
        exact h
      have HO := hide (fun (w : World) (h : Sk w a g cap L1) => (show Calls Try.prog 26 #[.pointer (some ⟨g, p * 3, none⟩), .agg #[.int .i16 c.toInt, .int .u64 x.toNat, .int .u32 (chk x).toNat]] w fun e u' => e = .returned (.tuple #[]) ∧ Alt w u' g ∧ Sk u' a g cap (at1 L1 p (cel x c)) from kOverS a g cap L1 p (by rw [unhide HL, ← unhide HN]; exact hpn) (cel x c) w h))
      have hpi : (p : Int) < (n : Int) := by omega
      have hp0 : (0 : Int) ≤ (p : Int) := by omega
      clear HPL hpn
      go_wp2
      have HKd := hide ((unhide HK).below (S.belowDrew (Below.refl _ _)))
      have HAd := hide (unhide HA).drew
      have HXd := hide (show wr.drew.heap[M]? = _ from unhide HX)
      go_region_with (go_at_call 26; refine (unhide HO wr.drew (unhide HKd)).mono ?_; rintro e W2 ⟨rfl, ha, hk⟩; have HA2 := hide ha; have HK2 := hide hk; clear ha hk)
      all_goals go_wp2
      all_goals go_roundw
      all_goals first
        | exact ⟨i + 1, by omega, by go_num, layU_to (unhide HK2) (unhide HU) (unhide HE2), (unhide HAd).trans (unhide HA2), ((unhide HA2).block M (Array.getElem?_eq_some_iff.1 (unhide HXd)).1 (by have := unhide HGM; omega)).trans (unhide HXd)⟩
        | (simp [intOf]; omega)
    · obtain rfl : i = 3 := by omega
      have hki : ¬ ((3 : Nat) : Int) < 3 := by decide
      rw [layU_all] at HK
      go_wp2
      go_returns
      exact ⟨rfl, unhide HA, unhide HK⟩
end Go.Proofs.Ytdmdenbpokmelaa.K
