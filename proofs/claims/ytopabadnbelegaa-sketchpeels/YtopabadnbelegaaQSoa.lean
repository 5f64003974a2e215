/- Sorting numbers of 64 bits: a row, Less, the insertion sort. Walks of our own; the sort's mathematics is the library's. -/
import Derived.Test.YtopabadnbelegaaQSkj
import Derived.Sort.Defs
namespace Go.Proofs.Ytopabadnbelegaa.K
open Go.RowKit Go.Lib
abbrev ltB (a b : BitVec 64) : Bool := decide (a.toNat < b.toNat)
/-- numbers at the beginning of a block -/
structure Rw (w : World) (g : Nat) (t : TypeId) (N : Nat) (d : Array (BitVec 64)) : Prop where
  row : ∃ cs : Array Value, w.heap[g]? = some (.cells cs t (0, 0)) ∧ cs.size = N ∧ ∀ j, j < d.size → cs[j]? = some (.int .u64 (d[j]!).toNat)
theorem Rw.cell {w : World} {g : Nat} {t : TypeId} {N : Nat} {d : Array (BitVec 64)} (h : Rw w g t N d) (j : Nat) (hj : j < d.size) : w.cell? ⟨g, j, none⟩ = some (.int .u64 (d[j]!).toNat) ∧ w.frozen? ⟨g, j, none⟩ = false := by
  obtain ⟨cs, h1, h2, h3⟩ := h.row
  exact ⟨S.arr_cell h1 (h3 j hj), frz0 h1 j⟩
theorem Rw.lt {w : World} {g : Nat} {t : TypeId} {N : Nat} {d : Array (BitVec 64)} (h : Rw w g t N d) : g < w.heap.size := by
  obtain ⟨cs, h1, h2, h3⟩ := h.row
  exact (Array.getElem?_eq_some_iff.1 h1).1
theorem Rw.alt {u w : World} {g b : Nat} {t : TypeId} {N : Nat} {d : Array (BitVec 64)} (h : Rw u g t N d) (hb : Alt u w b) (hg : g ≠ b) : Rw w g t N d := by
  obtain ⟨cs, h1, h2, h3⟩ := h.row
  exact ⟨cs, (hb.block g (Array.getElem?_eq_some_iff.1 h1).1 hg).trans h1, h2, h3⟩
theorem Rw.drewN {w : World} {g : Nat} {t : TypeId} {N : Nat} {d : Array (BitVec 64)} (h : Rw w g t N d) (z : Nat) : Rw (w.drewN z) g t N d := ⟨h.row⟩
theorem Rw.drew {w : World} {g : Nat} {t : TypeId} {N : Nat} {d : Array (BitVec 64)} (h : Rw w g t N d) : Rw w.drew g t N d := ⟨h.row⟩
theorem swp_get (d : Array (BitVec 64)) (i j k : Nat) (hk : k < d.size) : (Sort.swp d i j)[k]! = if k = j then d[i]! else if k = i then d[j]! else d[k]! := by
  unfold Sort.swp
  have h1 : k < ((d.setIfInBounds i d[j]!).setIfInBounds j d[i]!).size := by simpa using hk
  have h2 : k < (d.setIfInBounds i d[j]!).size := by simpa using hk
  have h0 : ((d.setIfInBounds i d[j]!).setIfInBounds j d[i]!)[k]'h1 = if j = k then d[i]! else (d.setIfInBounds i d[j]!)[k]'h2 := Array.getElem_setIfInBounds ..
  rw [getElem!_pos _ k h1, h0]
  by_cases e : j = k
  · rw [if_pos e, if_pos e.symm]
  · have h3 : (d.setIfInBounds i d[j]!)[k]'h2 = if i = k then d[j]! else d[k] := Array.getElem_setIfInBounds ..
    rw [if_neg e, if_neg (Ne.symm e), h3]
    by_cases e2 : i = k
    · rw [if_pos e2, if_pos e2.symm]
    · rw [if_neg e2, if_neg (Ne.symm e2), getElem!_pos d k hk]
theorem swp_size (d : Array (BitVec 64)) (i j : Nat) : (Sort.swp d i j).size = d.size := by unfold Sort.swp; simp
/-- two stores that swap -/
theorem Rw.swap {w : World} {g : Nat} {t : TypeId} {N : Nat} {d : Array (BitVec 64)} (h : Rw w g t N d) (i j : Nat) (hi : i < d.size) (hj : j < d.size) : Rw ((w.setCell ⟨g, i, none⟩ (.int .u64 (d[j]!).toNat)).setCell ⟨g, j, none⟩ (.int .u64 (d[i]!).toNat)) g t N (Sort.swp d i j) := by
  obtain ⟨cs, h1, h2, h3⟩ := h.row
  refine ⟨_, hcSame (hcSame h1 i _) j _, by simpa using h2, fun k hk => ?_⟩
  rw [swp_size] at hk
  have hN : d.size ≤ cs.size := by
    rcases Nat.lt_or_ge 0 d.size with h0 | h0
    · have := (Array.getElem?_eq_some_iff.1 (h3 (d.size - 1) (by omega))).1; omega
    · omega
  rw [swp_get d i j k hk]
  by_cases e : k = j
  · subst e
    rw [if_pos rfl, Array.getElem?_setIfInBounds_self_of_lt (by simp; omega)]
  · rw [if_neg e, Array.getElem?_setIfInBounds_ne (Ne.symm e)]
    by_cases e2 : k = i
    · subst e2
      rw [if_pos rfl, Array.getElem?_setIfInBounds_self_of_lt (by omega)]
    · rw [if_neg e2, Array.getElem?_setIfInBounds_ne (Ne.symm e2)]
      exact h3 k hk
theorem kNan (x : Int) (u : World) : Calls Try.prog 77 #[.int .u64 x] u fun e u' => e = .returned (.bool false) ∧ u' = u := by
  go_enter Try.func77, Try.ntmps77
  go_wp2
  go_ret
  exact ⟨by simp, rfl⟩
set_option maxHeartbeats 1000000 in
theorem kLess (x y : BitVec 64) (u : World) : Calls Try.prog 61 #[.int .u64 x.toNat, .int .u64 y.toNat] u fun e u' => e = .returned (.bool (ltB x y)) ∧ u' = u := by
  have HN := hide (fun z w => kNan z w)
  have hd : ltB x y = decide ((x.toNat : Int) < (y.toNat : Int)) := by unfold ltB; exact decide_eq_decide.2 (by omega)
  rw [hd]
  clear hd
  go_enter Try.func61, Try.ntmps61
  go_wp2_with (first
    | (go_at_call 77; refine (unhide HN _ _).mono ?_; rintro e wq ⟨rfl, hwq⟩; obtain rfl := hwq.symm)
    | fail)
  go_ret
  exact ⟨by simp, rfl⟩
/-- where a sort of these numbers stands -/
structure So (u w : World) (g : Nat) (t : TypeId) (N : Nat) (d : Array (BitVec 64)) : Prop where
  rw' : Rw w g t N d
  alt : Alt u w g
theorem So.drewN {u w : World} {g : Nat} {t : TypeId} {N : Nat} {d : Array (BitVec 64)} (h : So u w g t N d) (z : Nat) : So u (w.drewN z) g t N d := ⟨h.rw'.drewN z, h.alt.drewN z⟩
theorem So.swap {u w : World} {g : Nat} {t : TypeId} {N : Nat} {d : Array (BitVec 64)} (h : So u w g t N d) (i j : Nat) (hi : i < d.size) (hj : j < d.size) : So u ((w.setCell ⟨g, i, none⟩ (.int .u64 (d[j]!).toNat)).setCell ⟨g, j, none⟩ (.int .u64 (d[i]!).toNat)) g t N (Sort.swp d i j) :=
  ⟨h.rw'.swap i j hi hj, (h.alt.cell i _).cell j _⟩
theorem ins_go (a j : Nat) (d : Array (BitVec 64)) (h1 : a < j) (h2 : ltB d[j]! d[j - 1]! = true) : Sort.insInner ltB a j d = Sort.insInner ltB a (j - 1) (Sort.swp d j (j - 1)) := by
  obtain ⟨k, rfl⟩ : ∃ k, j = k + 1 := ⟨j - 1, by omega⟩
  rw [Nat.add_sub_cancel] at h2 ⊢
  rw [Sort.insInner, h2]
  simp [h1]
theorem ins_no (a j : Nat) (d : Array (BitVec 64)) (h : j ≤ a ∨ ltB d[j]! d[j - 1]! = false) : Sort.insInner ltB a j d = d := by
  cases j with
  | zero => rw [Sort.insInner]
  | succ k =>
    rw [Nat.add_sub_cancel] at h
    rw [Sort.insInner]
    rcases h with h | h
    · simp [show ¬ k + 1 > a by omega]
    · simp [h]
theorem ins_size (a : Nat) : ∀ (j : Nat) (d : Array (BitVec 64)), (Sort.insInner ltB a j d).size = d.size
  | 0, d => by rw [Sort.insInner]
  | j + 1, d => by
    rw [Sort.insInner]
    split
    · rw [ins_size a j, swp_size]
    · rfl
theorem out_go (a b i : Nat) (d : Array (BitVec 64)) (h : i < b) : Sort.insOuter ltB a b i d = Sort.insOuter ltB a b (i + 1) (Sort.insInner ltB a i d) := by rw [Sort.insOuter, if_pos h]
theorem out_no (a b i : Nat) (d : Array (BitVec 64)) (h : ¬ i < b) : Sort.insOuter ltB a b i d = d := by rw [Sort.insOuter, if_neg h]
theorem ixW (g n c i : Nat) (hi : i < n) (W : World) : (Instr.indexAt 28 (.slice (some ⟨g, 0, none⟩) n c) (.int .i64 (i : Int))).run Try.prog W = .ok (.pointer (some ⟨g, i, none⟩)) W := by
  have h := RW.ix g 0 n c i hi W
  rw [show RW.n = 1 from rfl, Nat.mul_one, Nat.zero_add] at h
  exact h
set_option maxRecDepth 100000 in
set_option maxHeartbeats 4000000 in
theorem kIns (g c a b n N : Nat) (t : TypeId) (d : Array (BitVec 64)) (u : World) (h : Rw u g t N d) (hn : n = d.size) (hab : a ≤ b) (hb : b ≤ n) (hm : n ≤ 17592186044416) : Calls Try.prog 55 #[.slice (some ⟨g, 0, none⟩) n c, .int .i64 (a : Int), .int .i64 (b : Int)] u fun e u' => e = .returned (.tuple #[]) ∧ So u u' g t N (Sort.insertionSort ltB d a b) := by
  have HI := hide (fun i (hi : i < n) => ixW g n c i hi)
  have HS0 : Hid (So u u g t N d) := ⟨h, Alt.refl _ _⟩
  have hai : (a : Int) ≤ 17592186044416 := by omega
  have hbi : (b : Int) ≤ 17592186044416 := by omega
  have HL := hide (fun x y w => kLess x y w)
  have HN := hide hn
  have HB := hide hb
  have HAB := hide hab
  clear h hn hm
  go_enter Try.func55, Try.ntmps55
  go_wp2
  go_loopw [6] (fun s6 wr => ∃ (i : Nat) (dk : Array (BitVec 64)), a < i ∧ i ≤ b + 1 ∧ s6 = .int .i64 (i : Int) ∧ Hid (dk.size = n) ∧ Hid (So u wr g t N dk) ∧ Hid (Sort.insOuter ltB a b i dk = Sort.insOuter ltB a b (a + 1) d)) (fun s6 _ => b + 1 - (intOf s6).toNat)
  case atStart => exact ⟨a + 1, d, by omega, by omega, by go_num, (unhide HN).symm, HS0, rfl⟩
  case round =>
    clear HS0
    obtain ⟨i, dk, hai2, hib, rfl, HZ, HS, HO⟩ := hrel
    by_cases hlt : i < b
    · have hii : (i : Int) < (b : Int) := by omega
      go_wp2
      go_loopw [7] (fun s7 wq => ∃ (j : Nat) (dj : Array (BitVec 64)), a ≤ j ∧ j ≤ i ∧ s7 = .int .i64 (j : Int) ∧ Hid (dj.size = n) ∧ Hid (So u wq g t N dj) ∧ Hid (Sort.insInner ltB a j dj = Sort.insInner ltB a i dk)) (fun s7 _ => (intOf s7).toNat)
      case atStart => exact ⟨i, dk, by omega, Nat.le_refl _, rfl, HZ, HS, rfl⟩
      case round =>
        clear HS
        obtain ⟨j, dj, haj, hji, rfl, HZJ, HSJ, HOJ⟩ := hrel
        have HOUT : Hid (Sort.insInner ltB a j dj = dj → Sort.insOuter ltB a b (i + 1) dj = Sort.insOuter ltB a b (a + 1) d) := fun e => by
          rw [← unhide HO, out_go a b i dk hlt, ← unhide HOJ, e]
        by_cases hja : a < j
        · have hjai : (j : Int) > (a : Int) := by omega
          have hjn : j < n := by have := unhide HB; omega
          have ix1 := unhide HI j hjn
          have ix2 := unhide HI (j - 1) (by omega)
          have hj1 : ((j : Int) - 1) = ((j - 1 : Nat) : Int) := by omega
          have hjz : j < dj.size := by rw [unhide HZJ]; exact hjn
          have c1 := ((unhide HSJ).rw'.cell j hjz).1
          have c2 := ((unhide HSJ).rw'.cell (j - 1) (by omega)).1
          have hjw : wrap64 ((j : Int) - 1) = ((j - 1 : Nat) : Int) := by rw [hj1]; simp only [wrap64]; omega
          obtain ⟨y1, hy1⟩ : ∃ y1, y1 = dj[j]! := ⟨_, rfl⟩
          obtain ⟨y2, hy2⟩ : ∃ y2, y2 = dj[j - 1]! := ⟨_, rfl⟩
          rw [← hy1] at c1
          rw [← hy2] at c2
          have HLS := hide (fun w => unhide HL y1 y2 w)
          have HGO := hide (ins_go a j dj hja)
          have HNO := hide (fun e => ins_no a j dj (.inr e))
          rw [← hy1, ← hy2] at HGO HNO
          have hfz1 := ((unhide HSJ).rw'.cell j hjz).2
          have hfz2 := ((unhide HSJ).rw'.cell (j - 1) (by omega)).2
          have HSW := hide (fun z => ((unhide HSJ).drewN z).swap j (j - 1) hjz (by omega))
          rw [← hy1, ← hy2] at HSW
          have HAI : Hid (a < i) := hai2
          have HJA := hide hja
          clear hy1 hy2 hjz hjn hja hai2
          cases hls : ltB y1 y2 with
          | true =>
            rw [hls] at HLS HGO
            clear HNO HOUT
            go_wp2
            go_quiet (first | exact Calls.quiet_of_same (unhide HLS _) | fail)
            go_wp2
            go_region
            go_wp2
            go_roundw
            case rel => exact ⟨j - 1, _, by have := unhide HJA; omega, by omega, by go_num, by show _ = _; rw [swp_size]; exact unhide HZJ, unhide HSW (nq + 1), by rw [← unhide HOJ]; exact (unhide HGO trivial).symm⟩
            case measure => simp [intOf]; have := unhide HJA; omega
          | false =>
            rw [hls] at HLS HNO
            have HF := hide (unhide HOUT (unhide HNO rfl))
            clear HGO HOUT
            go_wp2
            go_quiet (first | exact Calls.quiet_of_same (unhide HLS _) | fail)
            go_wp2
            go_roundw
            case rel => exact ⟨i + 1, dj, by have := unhide HAI; omega, by omega, by go_num, HZJ, (unhide HSJ).drewN nq, HF⟩
            case measure => simp [intOf]; omega
        · have hjai : ¬ (j : Int) > (a : Int) := by omega
          have hjd : decide (a < j) = false := decide_eq_false hja
          have HF := hide (unhide HOUT (ins_no a j dj (.inl (by omega))))
          have HAI : Hid (a < i) := hai2
          clear hai2 hja
          go_wp2
          go_quiet (first | fail)
          go_wp2
          go_roundw
          case rel => exact ⟨i + 1, dj, by have := unhide HAI; omega, by omega, by go_num, HZJ, (unhide HSJ).drewN nq, HF⟩
          case measure => simp [intOf]; omega
    · have hii : ¬ (i : Int) < (b : Int) := by omega
      have HEN : Hid (Sort.insertionSort ltB d a b = dk) := by
        show _ = _
        unfold Sort.insertionSort
        rw [← unhide HO, out_no _ _ _ _ hlt]
      go_wp2
      go_returns
      exact ⟨rfl, by rw [unhide HEN]; exact unhide HS⟩
end Go.Proofs.Ytopabadnbelegaa.K
