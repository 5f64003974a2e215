/- Sketches: Minus. -/
import Derived.Test.YtdmdenbpokmelaaSkq
import Derived.Deep.DeepCutAuto
namespace Go.Proofs.Ytdmdenbpokmelaa.K
open Go.RowKit Go.Lib
/-- the first of them less the other's -/
def minU (a b : List Ce) (i : Nat) : List Ce := a.mapIdx fun j x => if j < i then x.add (b.getD j .zer).neg else x
theorem minU_len (a b : List Ce) (i : Nat) : (minU a b i).length = a.length := List.length_mapIdx
theorem minU_zero (a b : List Ce) : minU a b 0 = a := List.ext_getElem? fun j => by
  unfold minU
  rw [List.getElem?_mapIdx]
  cases a[j]? with
  | none => simp
  | some x => simp
theorem minU_all (a b : List Ce) (n : Nat) (hn : a.length ≤ n) : minU a b n = minB a b := List.ext_getElem? fun j => by
  unfold minU minB
  rw [List.getElem?_mapIdx, List.getElem?_mapIdx]
  cases h : a[j]? with
  | none => rfl
  | some x =>
    have := (List.getElem?_eq_some_iff.1 h).1
    simp only [Option.map_some]
    rw [if_pos (by omega)]
theorem minU_next (a b : List Ce) (i : Nat) (hi : i < b.length) : at1 (minU a b i) i b[i].neg = minU a b (i + 1) := List.ext_getElem? fun j => by
  rw [at1_get]
  unfold minU
  rw [List.getElem?_mapIdx, List.getElem?_mapIdx]
  cases a[j]? with
  | none => rfl
  | some x =>
    simp only [Option.map_some, Option.some.injEq]
    by_cases h1 : i = j
    · subst h1
      rw [if_neg (by omega), if_pos rfl, if_pos (by omega), List.getD_eq_getElem?_getD, List.getElem?_eq_getElem hi, Option.getD_some]
    · rw [if_neg h1, Ce.add_zer]
      by_cases h2 : j < i
      · rw [if_pos h2, if_pos (by omega)]
      · rw [if_neg h2, if_neg (by omega)]
set_option maxRecDepth 100000 in
set_option maxHeartbeats 4000000 in
theorem kMinus (a g c b h d : Nat) (l m : List Ce) (u : World) (hs : Sk u a g c l) (ht : Sk u b h d m) (hlm : l.length = m.length) :
    Calls Try.prog 10 #[.pointer (some ⟨a, 0, none⟩), .pointer (some ⟨b, 0, none⟩)] u fun e u' => ∃ a3 g3 c3, e = .returned (.tuple #[.pointer (some ⟨a3, 0, none⟩), .int .i64 0]) ∧ Sk u' a3 g3 c3 (minB l m) ∧ Below u.heap.size u u' ∧ u.heap.size ≤ a3 ∧ u.heap.size ≤ g3 := by
  obtain ⟨n, hn⟩ : ∃ n, n = l.length := ⟨_, rfl⟩
  have HN := hide hn
  have HN2 := hide (hn.trans hlm)
  have HT := hide ht
  have HC := hide (fun z => kCopied (hs.below (S.belowDrewN (Below.refl _ _) z)))
  have hnm : (n : Int) ≤ 256 := by have := hs.hm; omega
  have z0 := S.cell_one hs.box
  have z1 := S.cell_one ht.box
  rw [← hn] at z0
  rw [← hlm, ← hn] at z1
  obtain ⟨B, hB⟩ : ∃ B, B = u.heap.size := ⟨_, rfl⟩
  have HB := hide hB
  clear hs ht hlm hn hB
  go_enter Try.func10, Try.ntmps10
  go_wp2
  go_quiet (first | fail)
  go_upto_region 7 with (first
    | (go_at_call 25; refine (unhide HC nq).mono ?_; rintro e W1 ⟨a3, g3, c3, rfl, hs, hb, h1, h2⟩; have HS1 := hide hs; have HB1 : Hid (Below B u W1) := (by rw [unhide HB]; exact (S.belowDrewN (Below.refl _ _) nq).trans hb); have HA3 : Hid (B ≤ a3) := (by rw [unhide HB]; exact h1); have HG3 : Hid (B ≤ g3) := (by rw [unhide HB]; exact h2); have zc := S.cell_one (((unhide HT).below (by have h := unhide HB1; rw [unhide HB] at h; exact h)).box); rw [← unhide HN2] at zc; clear hs hb h1 h2 HC)
    | fail)
  clear z0 z1 zc
  rw [← minU_zero l m] at HS1
  go_loopw [33] (fun s33 wr => ∃ i : Nat, i ≤ n ∧ s33 = .int .i64 (i : Int) ∧ Hid (Sk wr a3 g3 c3 (minU l m i)) ∧ Hid (Below B u wr)) (fun s33 _ => n - (intOf s33).toNat)
  case atStart => exact ⟨0, Nat.zero_le _, rfl, HS1, HB1⟩
  case round =>
    clear HS1 HB1
    obtain ⟨i, hi, rfl, HS, HBW⟩ := hrel
    by_cases hlt : i < n
    · have hii : (i : Int) < (n : Int) := by omega
      have him : i < m.length := by rw [← unhide HN2]; exact hlt
      have HTW := hide ((unhide HT).below (by have h := unhide HBW; rw [unhide HB] at h; exact h))
      obtain ⟨ix1, a0, a1, a2⟩ := (unhide HTW).cells i him
      rw [← unhide HN2] at ix1
      have HNX := hide (minU_next l m i him)
      have HL1 : Hid ((minU l m i).length = n) := (minU_len l m i).trans (unhide HN).symm
      generalize m[i] = x at *
      obtain ⟨L2, hL2⟩ : ∃ L2, L2 = minU l m (i + 1) := ⟨_, rfl⟩
      have HL2 := hide hL2
      rw [← hL2] at HNX
      generalize minU l m i = L1 at *
      have hng := b_neg16 x.c
      have HPR := hide (heap_alloc_new wr (.cells #[.int .i16 (-x.c).toInt, .int .u64 x.x.toNat, .int .u32 x.k.toNat] 57))
      have HBL := hide ((Below.refl wr.heap.size wr).alloc (Nat.le_refl _) (.cells #[.int .i16 (-x.c).toInt, .int .u64 x.x.toNat, .int .u32 x.k.toNat] 57))
      clear him hL2
      go_upto_region 10 with fail
      have HSX := hide ((unhide HS).below (unhide HBL))
      have HBX := hide ((unhide HBW).trans ((unhide HBL).mono (by rw [unhide HB]; exact (unhide HBW).size)))
      have hpr := unhide HPR
      clear HPR HBL a0 a1 a2 ix1 HS HBW
      generalize wr.alloc (.cells #[.int .i16 (-x.c).toInt, .int .u64 x.x.toNat, .int .u32 x.k.toNat] 57) = X0 at *
      have n0 := S.arr_cell hpr (show (#[.int .i16 (-x.c).toInt, .int .u64 x.x.toNat, .int .u32 x.k.toNat] : Array Value)[0]? = some (.int .i16 (-x.c).toInt) from rfl)
      have n1 := S.arr_cell hpr (show (#[.int .i16 (-x.c).toInt, .int .u64 x.x.toNat, .int .u32 x.k.toNat] : Array Value)[1]? = some (.int .u64 x.x.toNat) from rfl)
      have n2 := S.arr_cell hpr (show (#[.int .i16 (-x.c).toInt, .int .u64 x.x.toNat, .int .u32 x.k.toNat] : Array Value)[2]? = some (.int .u32 x.k.toNat) from rfl)
      have zb := S.cell_one (unhide HSX).box
      rw [unhide HL1] at zb
      have hin : i < L1.length := by rw [unhide HL1]; exact hlt
      have hix := (((unhide HSX).cells i hin).1)
      rw [unhide HL1] at hix
      have HSD := hide ((unhide HSX).below (S.belowDrew (Below.refl _ _)))
      have HBD := hide (S.belowDrew (unhide HBX))
      have HOV : Hid (Calls Try.prog 26 #[.pointer (some ⟨g3, i * 3, none⟩), .agg #[.int .i16 (-x.c).toInt, .int .u64 x.x.toNat, .int .u32 x.k.toNat]] X0.drew fun e u' => e = .returned (.tuple #[]) ∧ Alt X0.drew u' g3 ∧ Sk u' a3 g3 c3 (at1 L1 i x.neg)) := kOverS a3 g3 c3 L1 i hin x.neg X0.drew (unhide HSD)
      rw [unhide HNX] at HOV
      clear hpr hin
      go_region_with (go_at_call 26; refine (unhide HOV).mono ?_; rintro e W2 ⟨rfl, ha, hk⟩; have HA2 := hide ha; have HK2 := hide hk; clear ha hk)
      all_goals go_wp2
      all_goals go_roundw
      all_goals first
        | exact ⟨i + 1, by omega, by go_num, layU_to (unhide HK2) rfl (unhide HL2), (unhide HBD).trans ((unhide HA2).below (unhide HG3) (by rw [unhide HB]; exact (unhide HBD).size))⟩
        | (simp [intOf]; omega)
    · have hii : ¬ (i : Int) < (n : Int) := by omega
      have hin : i = n := by omega
      have HSE : Hid (Sk wr a3 g3 c3 (minB l m)) := by
        have h1 := unhide HS
        rw [hin, minU_all l m n (by rw [unhide HN]; exact Nat.le_refl _)] at h1
        exact h1
      clear hin
      go_wp2
      go_ret2
      rw [← unhide HB]
      exact ⟨a3, rfl, g3, ⟨c3, unhide HSE⟩, unhide HBW, unhide HA3, unhide HG3⟩
end Go.Proofs.Ytdmdenbpokmelaa.K
