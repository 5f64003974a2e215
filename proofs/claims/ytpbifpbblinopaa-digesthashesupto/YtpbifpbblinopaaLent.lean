/- Bytes that are lent, marks behind them. -/
import Derived.Test.YtpbifpbblinopaaBr
import Derived.Test.YtpbifpbblinopaaHsF
namespace Go.Proofs.Ytpbifpbblinopaa
open Go.RowKit

/-- bytes that lie somewhere -/
def Lies (u : World) (ao : Option Addr) (bs : List UInt8) : Prop := 0 < bs.length → ∃ g o, ao = some ⟨g, o, none⟩ ∧ g < u.heap.size ∧ ∀ (j : Nat) (hj : j < bs.length), u.cell? ⟨g, o + j, none⟩ = some (.int .u8 (bs[j].toNat : Int))
theorem Lies.keep {u u' : World} {ao : Option Addr} {bs : List UInt8} {B : Nat} (h : Lies u ao bs) (hb : Below B u u') (hB : u.heap.size ≤ B) : Lies u' ao bs := fun h0 => by
  obtain ⟨g, o, h1, h2, h3⟩ := h h0
  exact ⟨g, o, h1, by have := hb.size; omega, fun j hj => (hb.cell (p := ⟨g, o + j, none⟩) (by show g < B; omega)).trans (h3 j hj)⟩
theorem Lies.below {u u' : World} {ao : Option Addr} {bs : List UInt8} (h : Lies u ao bs) (hb : Below u.heap.size u u') : Lies u' ao bs := h.keep hb (Nat.le_refl _)
theorem BR.lies {w u : World} {g cap : Nat} {bs : List UInt8} (h : BR w u g cap bs) : Lies u (some ⟨g, 0, none⟩) bs := fun _ => ⟨g, 0, rfl, h.lt, fun j hj => by rw [Nat.zero_add]; exact h.cell j hj⟩
theorem BR.front {w u : World} {g cap : Nat} {bs cs : List UInt8} (h : BR w u g cap (bs ++ cs)) : BR w u g cap bs := by
  obtain ⟨cur, fr, h1, h2, h3, h4⟩ := h.row
  refine ⟨⟨cur, fr, h1, h2, ?_, h4⟩, h.ge, by have := h.le; simp at this; omega, h.max, h.bel⟩
  have := congrArg (List.take bs.length) h3
  rw [List.take_take, Nat.min_eq_left (by simp)] at this
  rw [this]
  simp [Lib.byteCells]
theorem conv_lies {u : World} {ao : Option Addr} {bs : List UInt8} (h : Lies u ao bs) (n cap : Nat) (hn : n = bs.length) : (convert 24 9 (.slice ao n cap)).run Try.prog u = .ok (.string ⟨bs.toArray⟩) u := by
  subst hn
  by_cases h0 : 0 < bs.length
  · obtain ⟨g, o, rfl, h2, h3⟩ := h h0
    refine run_convert_bytes_back u 24 9 5 ⟨g, o, none⟩ cap bs Try.underlying24 Try.underlying5 Try.underlying9 fun j hj => ?_
    rw [Addr.add_mid]
    exact h3 j hj
  · obtain rfl : bs = [] := List.eq_nil_of_length_eq_zero (by omega)
    cases ao with
    | none => simp [convert, run_underlying Try.underlying24, run_underlying Try.underlying5, run_underlying Try.underlying9, Conv.bytesToString]; rfl
    | some a => exact run_convert_bytes_back u 24 9 5 a cap [] Try.underlying24 Try.underlying5 Try.underlying9 fun j hj => absurd hj (by simp)
theorem append_empty (u : World) (ty : TypeId) (g n cap c : Nat) (ao : Option Addr) (hn : n ≤ cap) : (Builtin.append_ #[24, 24] ty #[.slice (some ⟨g, 0, none⟩) n cap, .slice ao 0 c]).run Try.prog u = .ok (.slice (some ⟨g, 0, none⟩) n cap) u := by
  obtain ⟨i0, hi, hz0, hz1, hz2⟩ := info_parts infoU8
  cases ao with
  | none => simp [Builtin.append_, run_underlying Try.underlying24, sizeOf, typeInfo, hi, Builtin.lenOf, hn, Builtin.firstCells, storeCells]
  | some a => exact run_append_room_cells (P := Try.prog) u 24 ty 5 i0 Try.underlying24 hi g 0 n cap a 0 c [] (by simp) (fun j x hx => by simp at hx) (fun x hx => by simp at hx) hn (fun j hj => absurd hj (Nat.not_lt_zero _)) (fun j hj => absurd hj (Nat.not_lt_zero _))
/-- append of whatever bytes -/
theorem BR.put {w u : World} {g cap : Nat} {bs : List UInt8} (h : BR w u g cap bs) (ty : TypeId) (ao : Option Addr) (c m : Nat) (q : List UInt8) (hm : m = q.length) (hsrc : Lies u ao q) (hby : bs.length + q.length ≤ 140737488355328) :
    ∃ g' cap' u', (Builtin.append_ #[24, 24] ty #[.slice (some ⟨g, 0, none⟩) bs.length cap, .slice ao m c]).run Try.prog u = .ok (.slice (some ⟨g', 0, none⟩) (bs.length + q.length) cap') u' ∧ BR w u' g' cap' (bs ++ q) ∧ U1 u u' g ∧ (g' = g ∨ u.heap.size ≤ g') := by
  by_cases h0 : 0 < q.length
  · obtain ⟨gs, o, rfl, h2, h3⟩ := hsrc h0
    exact h.append ty ⟨gs, o, none⟩ c m q hm h0 (fun j hj => by rw [Addr.add_mid]; exact h3 j hj) hby
  · obtain rfl : q = [] := List.eq_nil_of_length_eq_zero (by omega)
    subst hm
    refine ⟨g, cap, u, append_empty u ty g bs.length cap c ao h.le, by simpa using h, U1.refl _ _, .inl rfl⟩
/-- the marks -/
def mks (k : Nat) : List UInt8 := (List.range k).map fun i => UInt8.ofNat (150 + i)
theorem mks_succ (k : Nat) : mks (k + 1) = mks k ++ [UInt8.ofNat (150 + k)] := by simp [mks, List.range_succ]
theorem mks_length (k : Nat) : (mks k).length = k := by simp [mks]
theorem mks_at (k j : Nat) (hj : j < k) (hk : k ≤ 66) : ((mks k)[j]'(by rw [mks_length]; exact hj)).toNat = 150 + j := by
  simp only [mks, List.getElem_map, List.getElem_range]
  rw [UInt8.toNat_ofNat', Nat.mod_eq_of_lt (by omega)]
theorem BR.nothing (w : World) : BR w (w.alloc (.cells #[] 5)) w.heap.size 0 [] :=
  ⟨⟨#[], (0, 0), heap_alloc_new _ _, rfl, rfl, fun j hj => absurd hj (Nat.not_lt_zero _)⟩, Nat.le_refl _, Nat.le_refl _, by decide, (Below.refl _ _).alloc (Nat.le_refl _) _⟩
theorem cutToI (g o m c : Nat) (i : Nat) (hi : i ≤ c) (W : World) : (Instr.slice 24 (.slice (some ⟨g, o, none⟩) m c) none (some (.int .i64 (i : Int))) none).run Try.prog W = .ok (.slice (some ⟨g, o, none⟩) i c) W := by
  rw [run_slice_h W 24 _ _ _ bytesUnd .i64 i (by omega) (by omega), bytesSize]
  simp only [Result.andThen_ok, sliced, Int.toNat_natCast, Nat.sub_zero, Nat.zero_mul]
  by_cases h0 : c = 0
  · rw [if_pos h0]
  · rw [if_neg h0, Option.map_some, Addr.add_mid, Nat.add_zero]
set_option maxRecDepth 100000 in
set_option maxHeartbeats 1000000 in
theorem lLent (bs : List UInt8) (ao : Option Addr) (cap : Nat) (w : World) (hsrc : Lies w ao bs) (hl : bs.length ≤ 140737488355200) :
    Calls Try.prog 12 #[.slice ao bs.length cap] w fun e w' => ∃ g c, e = .returned (.slice (some ⟨g, 0, none⟩) bs.length c) ∧ BR w w' g c (bs ++ mks 66) := by
  obtain ⟨g1, c1, W1, hrun, hbr, _, _⟩ := (BR.nothing w).put 24 ao cap bs.length bs rfl (hsrc.below ((Below.refl _ _).alloc (Nat.le_refl _) _)) (by simp; omega)
  simp only [List.length_nil, Nat.zero_add, List.nil_append] at hrun hbr
  have HB1 := hide hbr
  have hli : (bs.length : Int) ≤ 140737488355200 := by omega
  clear hbr hsrc
  go_enter Try.func12, Try.ntmps12
  go_wp2_with (at_builtin; refine Lib.wpList_append_run _ rfl (.tmp 5) (.tmp 6) 24 24 rfl _ _ rfl rfl _ _ hrun ?_)
  go_loopw [3, 4] (fun vb vi wr => ∃ (k g c : Nat), k ≤ 66 ∧ vi = .int .i64 k ∧ vb = .slice (some ⟨g, 0, none⟩) (bs.length + k) c ∧ Hid (BR w wr g c (bs ++ mks k))) (fun _ vi _ => 66 - (intOf vi).toNat)
  case atStart => exact ⟨0, g1, c1, Nat.zero_le _, rfl, rfl, by simpa [mks] using HB1⟩
  case round =>
    clear HB1 hrun
    obtain ⟨k, g, c, hk, rfl, rfl, HI⟩ := hrel
    by_cases hlt : k < 66
    · have hki : (k : Int) < 66 := by omega
      have hblen : (bs ++ mks k).length = bs.length + k := by rw [List.length_append, mks_length]
      obtain ⟨x, hx⟩ : ∃ x, x = UInt8.ofNat (150 + k) := ⟨_, rfl⟩
      have hxn : (x.toNat : Int) = 150 + (k : Int) := by rw [hx, UInt8.toNat_ofNat', Nat.mod_eq_of_lt (by omega)]; omega
      obtain ⟨g', c', W5, hrun, hbr, hu1, hor⟩ := ((unhide HI).alloc (.cells #[.int .u8 (x.toNat : Int)] 5)).append 24 ⟨wr.heap.size, 0, none⟩ 1 1 [x] rfl (by simp) (fun j hj => by
        obtain rfl : j = 0 := by simpa using hj
        simp [Addr.add]) (by rw [hblen]; simp; omega)
      rw [hblen, hxn] at hrun
      have HN : Hid (BR w W5 g' c' (bs ++ mks (k + 1))) := by rw [mks_succ, ← hx, ← List.append_assoc]; exact hbr
      clear hbr hu1 hor HI hblen hx hxn
      go_wp2_with (at_builtin; refine Lib.wpList_append_run _ rfl (.tmp 12) (.tmp 16) 24 24 rfl _ _ rfl rfl _ _ hrun ?_)
      go_roundw
      case rel => exact ⟨k + 1, g', c', by omega, by go_num, rfl, hide (unhide HN)⟩
      case measure => simp [intOf]; omega
    · have hkk : k = 66 := by omega
      subst hkk
      have hct := cutToI g 0 (bs.length + 66) c bs.length (by have := (unhide HI).le; rw [List.length_append] at this; omega)
      go_wp2
      go_ret
      exact ⟨g, c, rfl, unhide HI⟩
set_option maxRecDepth 100000 in
set_option maxHeartbeats 1000000 in
theorem lKept (bs : List UInt8) (g c : Nat) (ao : Option Addr) (cap : Nat) (w u : World) (hb : BR w u g c (bs ++ mks 66)) (hsrc : Lies u ao bs) (hl : bs.length ≤ 140737488355200) :
    Calls Try.prog 15 #[.slice (some ⟨g, 0, none⟩) bs.length c, .slice ao bs.length cap] u fun e w' => e = .returned (.bool true) ∧ w' = u := by
  have hc1 := conv_lies hb.front.lies bs.length c rfl
  have hc2 := conv_lies hsrc bs.length cap rfl
  have hle : bs.length + 66 ≤ c := by have := hb.le; rw [List.length_append, mks_length] at this; exact this
  have hct := cutToI g 0 bs.length c (bs.length + 66) hle
  rw [show ((bs.length + 66 : Nat) : Int) = (bs.length : Int) + 66 from by omega] at hct
  have HCE : Hid (∀ k, k < 66 → u.cell? ⟨g, bs.length + k, none⟩ = some (.int .u8 (150 + (k : Int)))) := by
    intro k hk
    have hlen : (bs ++ mks 66).length = bs.length + 66 := by rw [List.length_append, mks_length]
    rw [hb.cell (bs.length + k) (by omega), List.getElem_append_right (by omega)]
    have := mks_at 66 k hk (Nat.le_refl _)
    simp only [Nat.add_sub_cancel_left]
    rw [this]
    congr 2
  have hli : (bs.length : Int) ≤ 140737488355200 := by omega
  clear hb hsrc hle
  generalize (⟨bs.toArray⟩ : ByteArray) = S at *
  go_enter Try.func15, Try.ntmps15
  go_wp2
  clear hc1 hc2 hct
  go_loop [6] (fun vi => ∃ k : Nat, k ≤ 66 ∧ vi = .int .i64 k) (fun vi => 66 - (intOf vi).toNat)
  case atStart => exact ⟨0, Nat.zero_le _, rfl⟩
  case round =>
    obtain ⟨k, hk, rfl⟩ := hrel
    by_cases hlt : k < 66
    · have hki : (k : Int) < 66 := by omega
      have hce := unhide HCE k hlt
      obtain ⟨j, hj⟩ : ∃ j, j = bs.length + k := ⟨_, rfl⟩
      rw [← hj] at hce
      have hji : (bs.length : Int) + (k : Int) = (j : Int) := by omega
      have hjl : (j : Int) < (bs.length : Int) + 66 := by omega
      have hjl2 : j < bs.length + 66 := by omega
      clear hj
      go_wp2
      go_round
      case rel => exact ⟨k + 1, by omega, by go_num⟩
      case measure => simp [intOf]; omega
    · go_wp2
      go_ret
      exact ⟨rfl, rfl⟩
end Go.Proofs.Ytpbifpbblinopaa
