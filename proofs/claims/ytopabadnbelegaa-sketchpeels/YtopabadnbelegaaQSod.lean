/- Sorting numbers of 64 bits: heapSort. -/
import Derived.Test.YtopabadnbelegaaQSoc
namespace Go.Proofs.Ytopabadnbelegaa.K
open Go.RowKit Go.Lib
theorem sd_size (hi first : Nat) : ∀ (m r : Nat) (d : Array (BitVec 64)), hi - r ≤ m → (Sort.siftDown ltB hi first r d).size = d.size
  | 0, r, d, h => by rw [sd_end _ _ _ _ (by omega)]
  | m + 1, r, d, h => by
    by_cases hr : 2 * r + 1 ≥ hi
    · rw [sd_end _ _ _ _ hr]
    · cases hl : ltB d[first + r]! d[first + sdCh hi first r d]! with
      | false => rw [sd_stop _ _ _ _ hr hl]
      | true =>
        rw [sd_go _ _ _ _ hr hl, sd_size hi first m _ _ (by unfold sdCh; split <;> omega), swp_size]
theorem hb_go (hi first k : Nat) (d : Array (BitVec 64)) : Sort.heapBuild ltB hi first (k + 1) d = Sort.heapBuild ltB hi first k (Sort.siftDown ltB hi first k d) := by rw [Sort.heapBuild]
theorem hb_no (hi first : Nat) (d : Array (BitVec 64)) : Sort.heapBuild ltB hi first 0 d = d := by rw [Sort.heapBuild]
theorem hp_go (first k : Nat) (d : Array (BitVec 64)) : Sort.heapPop ltB first (k + 1) d = Sort.heapPop ltB first k (Sort.siftDown ltB k first 0 (Sort.swp d first (first + k))) := by rw [Sort.heapPop]
theorem hp_no (first : Nat) (d : Array (BitVec 64)) : Sort.heapPop ltB first 0 d = d := by rw [Sort.heapPop]
theorem So.then {u w v : World} {g : Nat} {t : TypeId} {N : Nat} {d e : Array (BitVec 64)} (h : So u w g t N d) (h2 : So w v g t N e) : So u v g t N e := ⟨h2.rw', h.alt.trans h2.alt⟩
set_option maxRecDepth 100000 in
set_option maxHeartbeats 4000000 in
theorem kHeap (g c a b n N : Nat) (t : TypeId) (d : Array (BitVec 64)) (u : World) (h : Rw u g t N d) (hn : n = d.size) (hab : a < b) (hb : b ≤ n) (hm : n ≤ 17592186044416) : Calls Try.prog 56 #[.slice (some ⟨g, 0, none⟩) n c, .int .i64 (a : Int), .int .i64 (b : Int)] u fun e u' => e = .returned (.tuple #[]) ∧ So u u' g t N (Sort.heapSort ltB d a b) := by
  have HI := hide (fun i (hi : i < n) => ixW g n c i hi)
  have HS0 : Hid (So u u g t N d) := ⟨h, Alt.refl _ _⟩
  have hai : (a : Int) ≤ 17592186044416 := by omega
  have hbi : (b : Int) ≤ 17592186044416 := by omega
  have hl1 : (a : Int) + 1 ≤ b := by omega
  obtain ⟨H, hH⟩ : ∃ H, H = b - a := ⟨_, rfl⟩
  have hHi : (b : Int) - (a : Int) = (H : Int) := by omega
  have hH1 : (H : Int) - 1 = ((H - 1 : Nat) : Int) := by omega
  have hHb : (H : Int) ≤ 17592186044416 := by omega
  have hdv : ((H - 1 : Nat) : Int).tdiv 2 = (((H - 1) / 2 : Nat) : Int) := by rw [Int.tdiv_eq_ediv_of_nonneg (by omega)]; omega
  have HL := hide (fun (lo hi : Nat) (dk : Array (BitVec 64)) (w : World) (hr : Rw w g t N dk) (hz : dk.size = n) (h1 : lo ≤ n) (h2 : hi ≤ H) => kSift g c lo hi a n N t dk w hr hz.symm h1 (by omega) hm)
  have HSF : Hid (∀ (d2 : Array (BitVec 64)), Sort.heapSort ltB d2 a b = Sort.heapPop ltB a H (Sort.heapBuild ltB H a ((H - 1) / 2 + 1) d2)) := fun d2 => by unfold Sort.heapSort; rw [hH]
  have HN := hide hn
  have HB := hide hb
  have HAB := hide hab
  have HHH := hide hH
  have HM := hide hm
  clear h hn hm hab hb hH
  go_enter Try.func56, Try.ntmps56
  go_wp2
  go_loopw [9] (fun s9 wr => ∃ (k : Nat) (dk : Array (BitVec 64)), s9 = .int .i64 ((k : Int) - 1) ∧ (k : Int) ≤ (H : Int) ∧ Hid (dk.size = n) ∧ Hid (So u wr g t N dk) ∧ Hid (Sort.heapBuild ltB H a k dk = Sort.heapBuild ltB H a ((H - 1) / 2 + 1) d)) (fun s9 _ => (intOf s9 + 1).toNat)
  case atStart =>
    exact ⟨(H - 1) / 2 + 1, d, congrArg (Value.int .i64) (by omega), by omega, (unhide HN).symm, HS0, rfl⟩
  case round =>
    clear HS0
    obtain ⟨k, dk, rfl, hkH, HZ, HS, HO⟩ := hrel
    rcases k with _ | k
    · have h01 : ((0 : Nat) : Int) - 1 = -1 := rfl
      rw [h01]
      have HP : Hid (Sort.heapPop ltB a H dk = Sort.heapSort ltB d a b) := by
        show _ = _
        rw [unhide HSF d, ← unhide HO, hb_no]
      clear HO HSF
      go_wp2
      go_loopw [10] (fun s10 wq => ∃ (k : Nat) (dj : Array (BitVec 64)), s10 = .int .i64 ((k : Int) - 1) ∧ (k : Int) ≤ (H : Int) ∧ Hid (dj.size = n) ∧ Hid (So u wq g t N dj) ∧ Hid (Sort.heapPop ltB a k dj = Sort.heapSort ltB d a b)) (fun s10 _ => (intOf s10 + 1).toNat)
      case atStart => exact ⟨H, dk, congrArg (Value.int .i64) (by omega), by omega, HZ, HS, HP⟩
      case round =>
        clear HS HZ HP
        obtain ⟨k, dj, rfl, hkj, HZ, HS, HP⟩ := hrel
        rcases k with _ | k
        · have HEN : Hid (Sort.heapSort ltB d a b = dj) := by
            show _ = _
            rw [← unhide HP, hp_no]
          go_wp2
          go_returns
          exact ⟨rfl, by rw [unhide HEN]; exact unhide HS⟩
        · have hk1 : ((k + 1 : Nat) : Int) - 1 = (k : Int) := by omega
          rw [hk1]
          have hkb : (k : Int) ≤ 17592186044416 := by omega
          rcases Nat.eq_zero_or_pos k with hk0 | hk0
          · subst hk0
            have hz0 : a < dj.size := by rw [unhide HZ]; have := unhide HAB; have := unhide HB; omega
            obtain ⟨c0, f0⟩ := (unhide HS).rw'.cell _ hz0
            have ix0 := unhide HI a (by rw [unhide HZ] at hz0; exact hz0)
            have HSW := hide (fun (w : World) (hw : So u w g t N dj) => hw.swap a a hz0 hz0)
            have HSS : Hid ((Sort.swp dj a a).size = n) := (swp_size _ _ _).trans (unhide HZ)
            have HC := hide (fun w (hr : Rw w g t N (Sort.swp dj a a)) => unhide HL 0 0 (Sort.swp dj a a) w hr (unhide HSS) (Nat.zero_le _) (Nat.zero_le _))
            have HE : Hid (Sort.heapPop ltB a 0 (Sort.siftDown ltB 0 a 0 (Sort.swp dj a a)) = Sort.heapSort ltB d a b) := (hp_go a 0 dj).symm.trans (unhide HP)
            have HZ2 := hide ((sd_size 0 a 0 0 (Sort.swp dj a a) (by omega)).trans (unhide HSS))
            generalize dj[a]! = y0 at *
            clear hz0 HL HP
            go_wp2
            go_region
            go_wp2_with (first | (go_at_call 72; have HSR := hide (unhide HSW _ (unhide HS)).drew; refine (unhide HC _ (unhide HSR).rw').mono ?_; rintro e wq ⟨rfl, HSQ⟩; replace HSQ := hide ((unhide HSR).then HSQ)) | fail)
            go_roundw
            case rel => exact ⟨0, _, rfl, by omega, HZ2, unhide HSQ, HE⟩
            case measure => simp [intOf]
          · have hz0 : a < dj.size := by rw [unhide HZ]; have := unhide HAB; have := unhide HB; omega
            have hz1 : a + k < dj.size := by rw [unhide HZ]; have := unhide HHH; have := unhide HB; omega
            obtain ⟨c0, f0⟩ := (unhide HS).rw'.cell _ hz0
            obtain ⟨c1, f1⟩ := (unhide HS).rw'.cell _ hz1
            have ix0 := unhide HI a (by rw [unhide HZ] at hz0; exact hz0)
            have ix1 := unhide HI (a + k) (by rw [unhide HZ] at hz1; exact hz1)
            have e1 : ((a + k : Nat) : Int) = (a : Int) + (k : Int) := by omega
            rw [e1] at ix1
            have hw1 : IntKind.i64.wrap ((a : Int) + (k : Int)) = (a : Int) + (k : Int) := by rw [IntKind.wrap_i64]; omega
            have hkp : (0 : Int) < (k : Int) := by omega
            have hkn : a < a + k := by omega
            have HSW := hide (fun (w : World) (hw : So u w g t N dj) => hw.swap a (a + k) hz0 hz1)
            generalize dj[a]! = y0 at *
            generalize dj[a + k]! = y1 at *
            have HSS : Hid ((Sort.swp dj a (a + k)).size = n) := (swp_size _ _ _).trans (unhide HZ)
            have HC := hide (fun w (hr : Rw w g t N (Sort.swp dj a (a + k))) => unhide HL 0 k (Sort.swp dj a (a + k)) w hr (unhide HSS) (Nat.zero_le _) (by omega))
            have HE := hide ((hp_go a k dj).symm.trans (unhide HP))
            have HZ2 := hide ((sd_size k a k 0 (Sort.swp dj a (a + k)) (by omega)).trans (unhide HSS))
            clear hz0 hz1 e1 HL HP
            go_wp2
            go_region
            go_wp2_with (first | (go_at_call 72; have HSR := hide (unhide HSW _ (unhide HS)).drew; refine (unhide HC _ (unhide HSR).rw').mono ?_; rintro e wq ⟨rfl, HSQ⟩; replace HSQ := hide ((unhide HSR).then HSQ)) | fail)
            go_roundw
            case rel => exact ⟨k, _, rfl, by omega, HZ2, unhide HSQ, HE⟩
            case measure => simp [intOf] <;> omega
    · have hk1 : ((k + 1 : Nat) : Int) - 1 = (k : Int) := by omega
      rw [hk1]
      have hkb : (k : Int) ≤ 17592186044416 := by omega
      have HC := hide (fun w (hr : Rw w g t N dk) => unhide HL k H dk w hr (unhide HZ) (by have := unhide HHH; have := unhide HB; omega) (Nat.le_refl _))
      have HE := hide ((hb_go H a k dk).symm.trans (unhide HO))
      have HZ2 := hide ((sd_size H a H k dk (by omega)).trans (unhide HZ))
      go_wp2_with (first | (go_at_call 72; refine (unhide HC _ (unhide HS).rw').mono ?_; rintro e wq ⟨rfl, HSQ⟩; replace HSQ := hide HSQ) | fail)
      go_roundw
      case rel => exact ⟨k, _, rfl, by omega, HZ2, (unhide HS).then (unhide HSQ), HE⟩
      case measure => simp [intOf] <;> omega
end Go.Proofs.Ytopabadnbelegaa.K
