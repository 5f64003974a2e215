/- Vectors: works: what each statement asks first. -/
import Derived.Test.YtajflgonhomkfaaXo
import Derived.Test.YtajflgonhomkfaaXl
namespace Go.Proofs.Ytajflgonhomkfaa
open Go.RowKit

/-- dots laid out anew -/
theorem Dv.lit (W : World) (l : List (Nat × Nat)) (cs : Array Value) (t : TypeId) (n : Nat) (hc : cs.toList = flatD l) (hn : n = l.length) : Dv (W.alloc (.cells cs t)) l (some ⟨W.heap.size, 0, none⟩) n :=
  ⟨fun _ => ⟨_, 0, rfl, fun j v hv => by
    have h1 : (W.alloc (.cells cs t)).heap[W.heap.size]? = some (.cells cs t (0, 0)) := heap_alloc_new _ _
    simp only [World.cell?, h1, Nat.zero_add]
    rw [← hc] at hv
    simpa using hv⟩, by omega, fun e => by cases e⟩
theorem Da.lit (W : World) (l : List (Nat × Nat)) (cs : Array Value) (t : TypeId) (n : Nat) (hc : cs.toList = flatD l) (hn : n = l.length) (hf : Fits l) (hl : l.length ≤ 128) : Da (W.alloc (.cells cs t)) l (some ⟨W.heap.size, 0, none⟩) n := ⟨Dv.lit W l cs t n hc hn, hf, len_da hl⟩
def wA : List (Nat × Nat) := [(1, 2), (3, 1)]
def wB : List (Nat × Nat) := [(1, 1), (2, 300)]
def wM : List (Nat × Nat) := [(1, 2), (2, 300), (3, 1)]
def wS : ByteArray := ⟨#[3, 1, 2, 2, 172, 2, 3, 1]⟩
theorem ok_of {l : List (Nat × Nat)} (h1 : l.length ≤ 64) (h2 : Decidable.decide (l.Pairwise fun x y => x.1 < y.1) = true) (h3 : l.all (fun d => Decidable.decide (1 ≤ d.2 ∧ d.2 ≤ 1099511627776)) = true) : V.Ok l :=
  ⟨⟨show l.Pairwise (fun x y => x.1 < y.1) from of_decide_eq_true h2, fun d hd => by have := List.all_eq_true.1 h3 d hd; simpa using this⟩, h1⟩
theorem okA : V.Ok wA := ok_of (by decide) (by decide) (by decide)
theorem okBb : V.Ok wB := ok_of (by decide) (by decide) (by decide)
theorem okM : V.Ok wM := ok_of (by decide) (by decide) (by decide)
theorem fits_ok {l : List (Nat × Nat)} (h : l.all (fun d => Decidable.decide (d.1 < 4294967296 ∧ d.2 < 18446744073709551616)) = true) : Fits l := fun d hd => by have := List.all_eq_true.1 h d hd; simpa using this
theorem mrgAB : V.mrg wA wB = wM := by simp [V.mrg, V.later, wA, wB, wM]
theorem mrgBA : V.mrg wB wA = wM := by simp [V.mrg, V.later, wA, wB, wM]
theorem mrgAM : V.mrg wA wM = wM := by simp [V.mrg, V.later, wA, wM]
theorem mrgMA : V.mrg wM wA = wM := by simp [V.mrg, V.later, wA, wM]
theorem maxAB : maxV wA wB = (wM, 0) := by
  unfold maxV
  rw [V.okB_true.2 okA, V.okB_true.2 okBb, mrgAB]
  rfl
theorem cmpAM : cmpV wA wM = -1 := by
  unfold cmpV belB
  rw [V.okB_true.2 okA, V.okB_true.2 okM, mrgAM, mrgMA, decide_eq_true rfl, decide_eq_false (show wM ≠ wA by decide)]
  rfl
theorem cmpAB : cmpV wA wB = 2 := by
  unfold cmpV belB
  rw [V.okB_true.2 okA, V.okB_true.2 okBb, mrgAB, mrgBA, decide_eq_false (show wM ≠ wB by decide), decide_eq_false (show wM ≠ wA by decide)]
  rfl
theorem encM : encV wM = (wS, 0) := by
  unfold encV
  rw [V.okB_true.2 okM]
  rfl
theorem tkS : tkV wS 0 0 = (wM, 8, 0) := by kernel_rfl
theorem decS : decV wS = (wM, 0) := by
  have he : takeE wS 0 0 = 0 := by unfold takeE; rw [tkS]; show (if V.okB wM = true then (0 : Int) else _) = 0; rw [V.okB_true.2 okM]; rfl
  have hl : takeL wS 0 0 = wM := by unfold takeL; rw [he, tkS]; rfl
  unfold decV
  rw [he, hl, tkS]
  rfl
set_option maxRecDepth 100000 in
set_option maxHeartbeats 8000000 in
theorem lWorks (u : World) : Calls Try.prog 38 #[] u fun e u' => e = .returned (.bool true) ∧ Below u.heap.size u u' := by
  have HB1 : Hid (Below u.heap.size u (u.alloc (.cells #[.int .u32 1, .int .u64 2, .int .u32 3, .int .u64 1] 29))) := (Below.refl _ _).alloc (Nat.le_refl _) _
  have HA1 : Hid (Da (u.alloc (.cells #[.int .u32 1, .int .u64 2, .int .u32 3, .int .u64 1] 29)) wA (some ⟨u.heap.size, 0, none⟩) 2) := Da.lit u wA _ _ 2 rfl rfl (fits_ok (by decide)) (by decide)
  have HS1 : Hid ((u.alloc (.cells #[.int .u32 1, .int .u64 2, .int .u32 3, .int .u64 1] 29)).heap.size = u.heap.size + 1) := by simp [Hid]
  obtain ⟨u1, hu1⟩ : ∃ x, x = u.alloc (.cells #[.int .u32 1, .int .u64 2, .int .u32 3, .int .u64 1] 29) := ⟨_, rfl⟩
  rw [← hu1] at HB1 HA1 HS1
  have HB2 : Hid (Below u1.heap.size u1 (u1.alloc (.cells #[.int .u32 1, .int .u64 1, .int .u32 2, .int .u64 300] 29))) := (Below.refl _ _).alloc (Nat.le_refl _) _
  have HC2 : Hid (Da (u1.alloc (.cells #[.int .u32 1, .int .u64 1, .int .u32 2, .int .u64 300] 29)) wB (some ⟨u1.heap.size, 0, none⟩) 2) := Da.lit u1 wB _ _ 2 rfl rfl (fits_ok (by decide)) (by decide)
  obtain ⟨u2, hu2⟩ : ∃ x, x = u1.alloc (.cells #[.int .u32 1, .int .u64 1, .int .u32 2, .int .u64 300] 29) := ⟨_, rfl⟩
  rw [← hu2] at HB2 HC2
  rw [unhide HS1] at HC2
  have HA2 := hide ((unhide HA1).below (unhide HB2))
  have HBB : Hid (Below u.heap.size u u2) := (unhide HB1).trans ((unhide HB2).mono (by rw [unhide HS1]; omega))
  have HFM : Hid (Fits wM) := fits_ok (by decide)
  obtain ⟨N, hN⟩ : ∃ N, N = u.heap.size := ⟨_, rfl⟩
  have HN := hide hN
  rw [← hN] at HBB HA2 HC2
  rw [hu1] at hu2
  have HU2 := hide hu2
  have HMX : Hid (Calls Try.prog 20 #[.slice (some ⟨N, 0, none⟩) 2 2, .slice (some ⟨N + 1, 0, none⟩) 2 2] u2 fun e u' => ∃ ao c, e = .returned (.tuple #[.slice ao 3 c, .int .i64 0]) ∧ OwnD u' u2.heap.size wM ao c ∧ Below u2.heap.size u2 u') := by
    have := vMax wA wB _ _ 2 2 u2 (unhide HA2) (unhide HC2)
    rw [maxAB] at this
    exact this
  have HEN : Hid (∀ (w : World) (ao : Option Addr) (c : Nat), Da w wM ao c → Calls Try.prog 25 #[.slice ao 3 c] w fun e u' => e = .returned (.tuple #[.string ⟨#[3, 1, 2, 2, 172, 2, 3, 1]⟩, .int .i64 0]) ∧ Below w.heap.size w u') := fun w ao c h => by
    have := vEncode wM ao c w h.at
    rw [encM] at this
    exact this
  have HDE : Hid (∀ (w : World), Calls Try.prog 29 #[.string ⟨#[3, 1, 2, 2, 172, 2, 3, 1]⟩] w fun e u' => ∃ ao c, e = .returned (.tuple #[.slice ao 3 c, .int .i64 0]) ∧ OwnD u' w.heap.size wM ao c ∧ Below w.heap.size w u') := fun w => by
    have := vDecode wS w (by decide)
    rw [decS] at this
    exact this
  have HSA : Hid (∀ (w : World) (ao bo : Option Addr) (c d : Nat), Da w wM ao c → Da w wM bo d → Calls Try.prog 40 #[.slice ao 3 c, .slice bo 3 d] w fun e u' => e = .returned (.bool true) ∧ ∃ z, u' = w.drewN z) := fun w ao bo c d h1 h2 => by
    have := lSame wM wM ao bo c d w h1.at h2.at
    rw [decide_eq_true rfl] at this
    exact this
  have HC1 : Hid (∀ (w : World) (ao bo : Option Addr) (c d : Nat), Da w wA ao c → Da w wM bo d → Calls Try.prog 46 #[.slice ao 2 c, .slice bo 3 d] w fun e u' => e = .returned (.int .i8 (-1)) ∧ Below w.heap.size w u') := fun w ao bo c d h1 h2 => by
    have := vCompare wA wM ao bo c d w h1 h2
    rw [cmpAM] at this
    exact this
  have HC3 : Hid (∀ (w : World) (ao bo : Option Addr) (c d : Nat), Da w wA ao c → Da w wB bo d → Calls Try.prog 46 #[.slice ao 2 c, .slice bo 2 d] w fun e u' => e = .returned (.int .i8 2) ∧ Below w.heap.size w u') := fun w ao bo c d h1 h2 => by
    have := vCompare wA wB ao bo c d w h1 h2
    rw [cmpAB] at this
    exact this
  have HOD : Hid (∀ (w : World) (B : Nat) (ao : Option Addr) (c : Nat), OwnD w B wM ao c → Da w wM ao c) := fun w B ao c h => ⟨h.dv, unhide HFM, by decide⟩
  have HLM : Hid (∀ (w : World), Da (w.alloc (.cells #[.int .u32 1, .int .u64 2, .int .u32 2, .int .u64 300, .int .u32 3, .int .u64 1] 29)) wM (some ⟨w.heap.size, 0, none⟩) 3) := fun w => Da.lit w wM _ _ 3 rfl rfl (unhide HFM) (by decide)
  have HALB : Hid (∀ (w : World) (o : Obj), Below w.heap.size w (w.alloc o)) := fun w o => (Below.refl _ _).alloc (Nat.le_refl _) _
  clear HB1 HA1 HS1 HB2 hu1 hu2 hN
  rw [← unhide HN]
  go_enter Try.func38, Try.ntmps38
  go_wp2_with (first
    | (go_at_call 20; rw [← unhide HN, ← unhide HU2]; refine (unhide HMX).mono ?_; rintro e w3 ⟨ao, c, rfl, ho3, hb3⟩; have HM3 := hide (unhide HOD _ _ _ _ ho3); have HB3 : Hid (Below N u w3) := (unhide HBB).trans (hb3.mono (by rw [unhide HN]; exact (unhide HBB).size)); have HA3 := hide ((unhide HA2).below hb3); have HC4 := hide ((unhide HC2).below hb3); clear ho3 hb3)
    | (go_at_call 25; refine (unhide HEN _ _ _ (unhide HM3)).mono ?_; rintro e w4 ⟨rfl, hb4⟩; have HM4 := hide ((unhide HM3).below hb4); have HB4 : Hid (Below N u w4) := (unhide HB3).trans (hb4.mono (by rw [unhide HN]; exact (unhide HB3).size)); have HA4 := hide ((unhide HA3).below hb4); have HC5 := hide ((unhide HC4).below hb4); clear hb4)
    | (go_at_call 29; refine (unhide HDE _).mono ?_; rintro e w5 ⟨ao5, c5, rfl, ho5, hb5⟩; have HV5 := hide (unhide HOD _ _ _ _ ho5); have HM5 := hide ((unhide HM4).below hb5); have HB5 : Hid (Below N u w5) := (unhide HB4).trans (hb5.mono (by rw [unhide HN]; exact (unhide HB4).size)); have HA5 := hide ((unhide HA4).below hb5); have HC6 := hide ((unhide HC5).below hb5); clear ho5 hb5)
    | fail)
  have HF : Hid (∀ w : World, Below w5.heap.size w5 w → (Da w wM ao c ∧ Da w wM ao5 c5 ∧ Da w wA (some ⟨N, 0, none⟩) 2 ∧ Da w wB (some ⟨N + 1, 0, none⟩) 2) ∧ Below N u w) := fun w hw => ⟨⟨(unhide HM5).below hw, (unhide HV5).below hw, (unhide HA5).below hw, (unhide HC6).below hw⟩, (unhide HB5).trans (hw.mono (by rw [unhide HN]; exact (unhide HB5).size))⟩
  refine (unhide HSA _ _ _ _ _ ((unhide HM5).below (unhide HALB _ _)) (unhide HLM _)).mono ?_
  rintro e w6 ⟨rfl, z, hw6⟩
  have HB6 : Hid (Below w5.heap.size w5 w6) := by rw [hw6]; exact belowDrewN (unhide HALB _ _) _
  clear hw6 HM3 HM4 HM5 HV5 HA3 HA4 HA5 HC4 HC5 HC6 HB3 HB4
  go_wp2_with (first
    | (go_at_call 40; refine (unhide HSA _ _ _ _ _ (unhide HF _ (unhide HB6)).1.2.1 (unhide HF _ (unhide HB6)).1.1).mono ?_; rintro e w7 ⟨rfl, z7, hw7⟩; have HB7 : Hid (Below w5.heap.size w5 w7) := (by rw [hw7]; exact belowDrewN (unhide HB6) _); clear hw7)
    | (go_at_call_of 46 (Value.slice ao 3 c); refine (unhide HC1 _ _ _ _ _ (unhide HF _ (unhide HB7)).1.2.2.1 (unhide HF _ (unhide HB7)).1.1).mono ?_; rintro e w8 ⟨rfl, hb8⟩; have HB8 : Hid (Below w5.heap.size w5 w8) := (unhide HB7).trans (hb8.mono (unhide HB7).size); clear hb8)
    | (go_at_call 46; refine (unhide HC3 _ _ _ _ _ (unhide HF _ (unhide HB8)).1.2.2.1 (unhide HF _ (unhide HB8)).1.2.2.2).mono ?_; rintro e w9 ⟨rfl, hb9⟩; have HB9 : Hid (Below w5.heap.size w5 w9) := (unhide HB8).trans (hb9.mono (unhide HB8).size); clear hb9)
    | fail)
  go_ret
  exact ⟨rfl, (unhide HF _ (unhide HB9)).2⟩
end Go.Proofs.Ytajflgonhomkfaa
