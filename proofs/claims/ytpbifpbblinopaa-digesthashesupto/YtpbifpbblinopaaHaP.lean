/- Bytes that are written over, whatever is marked behind them. -/
import Derived.Test.YtpbifpbblinopaaHaS
namespace Go.Proofs.Ytpbifpbblinopaa
open Go.RowKit

theorem xor85 (x : UInt8) : ∃ y : UInt8, bits .xor .u8 (x.toNat : Int) 85 = (y.toNat : Int) := by
  have h : ∀ x : Fin 256, ∃ y : Fin 256, bits .xor .u8 (x.1 : Int) 85 = (y.1 : Int) := by decide +kernel
  obtain ⟨y, hy⟩ := h ⟨x.toNat, UInt8.toNat_lt x⟩
  exact ⟨UInt8.ofNat y.1, by rw [UInt8.toNat_ofNat', Nat.mod_eq_of_lt y.2]; exact hy⟩
theorem BR.set {w u : World} {g c : Nat} {bs : List UInt8} (h : BR w u g c bs) (i : Nat) (y : UInt8) : BR w (u.setCell ⟨g, i, none⟩ (.int .u8 (y.toNat : Int))) g c (bs.set i y) := by
  obtain ⟨cur, fr, h1, h2, h3, h4⟩ := h.row
  refine ⟨⟨_, fr, heapCell_same h1 _ _, by simpa using h2, ?_, ?_⟩, h.ge, by simpa using h.le, h.max, belowCell h.bel h.ge _⟩
  · rw [List.length_set, Array.toList_setIfInBounds, List.take_set, h3]
    simp [Lib.byteCells, List.map_set]
  · intro j hj
    rw [← h4 j hj]
    simp only [World.frozen?, heapCell_same h1 i (.int .u8 (y.toNat : Int)), h1]
theorem BR.writable {w u : World} {g c : Nat} {bs : List UInt8} (h : BR w u g c bs) (i : Nat) (hi : i < bs.length) : u.frozen? ⟨g, i, none⟩ = false := by
  obtain ⟨cur, fr, h1, h2, h3, h4⟩ := h.row
  exact h4 i (by have := h.le; omega)
set_option maxRecDepth 100000 in
set_option maxHeartbeats 1000000 in
theorem lSpoilB (w : World) (g c n : Nat) (u : World) (hb : ∃ bs : List UInt8, bs.length = n ∧ BR w u g c bs) (hn : n ≤ 140737488355200) :
    Calls Try.prog 20 #[.slice (some ⟨g, 0, none⟩) n c] u fun e w' => e = .returned (.tuple #[]) ∧ U1 u w' g := by
  have HB := hide hb
  have hni : (n : Int) ≤ 140737488355200 := by omega
  clear hb
  go_enter Try.func20, Try.ntmps20
  go_wp2
  go_loopw [2] (fun i wr => ∃ k : Nat, k ≤ n ∧ i = .int .i64 k ∧ Hid ((∃ bs : List UInt8, bs.length = n ∧ BR w wr g c bs) ∧ U1 u wr g)) (fun i _ => n - (intOf i).toNat)
  case atStart => exact ⟨0, Nat.zero_le _, rfl, hide ⟨unhide HB, U1.refl _ _⟩⟩
  case round =>
    clear HB
    obtain ⟨k, hk, rfl, HI⟩ := hrel
    obtain ⟨⟨bs, hbl, hbr⟩, hu⟩ := unhide HI
    by_cases hlt : k < n
    · have hce := hbr.cell k (by omega)
      have hfz := hbr.writable k (by omega)
      obtain ⟨y, hy⟩ := xor85 bs[k]
      have hki : (k : Int) < (n : Int) := by omega
      have HN : Hid ((∃ bs : List UInt8, bs.length = n ∧ BR w (wr.setCell ⟨g, k, none⟩ (.int .u8 (y.toNat : Int))) g c bs) ∧ U1 u (wr.setCell ⟨g, k, none⟩ (.int .u8 (y.toNat : Int))) g) := ⟨⟨bs.set k y, by simpa using hbl, hbr.set k y⟩, hu.set _ _⟩
      generalize (bs[k].toNat : Int) = xi at *
      clear hbr hbl hu HI
      go_wp2
      go_roundw
      case rel => exact ⟨k + 1, by omega, by go_num, hide (unhide HN)⟩
      case measure => simp [intOf]; omega
    · have HJ : Hid (∃ bs : List UInt8, bs.length = n + 0 ∧ BR w wr g c bs ∧ U1 u wr g ∧ (g = g ∨ u.heap.size ≤ g)) := ⟨bs, hbl, hbr, hu, .inl rfl⟩
      clear hbr hbl hu HI
      go_wp2
      go_loopw [0, 3] (fun vb i wr => ∃ (m g' c' : Nat), m ≤ 66 ∧ i = .int .i64 m ∧ vb = .slice (some ⟨g', 0, none⟩) (n + m) c' ∧ Hid (∃ bs : List UInt8, bs.length = n + m ∧ BR w wr g' c' bs ∧ U1 u wr g ∧ (g' = g ∨ u.heap.size ≤ g'))) (fun _ i _ => 66 - (intOf i).toNat)
      case atStart =>
        obtain ⟨bs', q1, q2, q3, _⟩ := unhide HJ
        exact ⟨0, g, c, Nat.zero_le _, rfl, rfl, hide ⟨bs', q1, q2, q3, .inl rfl⟩⟩
      case round =>
        clear HJ
        obtain ⟨m, g', c', hm, rfl, rfl, HJ⟩ := hrel
        by_cases hlt2 : m < 66
        · have hmi : (m : Int) < 66 := by omega
          obtain ⟨bs, hbl, hbr, hu, hor⟩ := unhide HJ
          obtain ⟨x, hx⟩ : ∃ x, x = UInt8.ofNat (7 + m) := ⟨_, rfl⟩
          have hxn : (x.toNat : Int) = 7 + (m : Int) := by rw [hx, UInt8.toNat_ofNat', Nat.mod_eq_of_lt (by omega)]; omega
          obtain ⟨g2, c2, W5, hrun, hbr2, hu1, hor2⟩ := (hbr.alloc (.cells #[.int .u8 (x.toNat : Int)] 5)).append 24 ⟨wr.heap.size, 0, none⟩ 1 1 [x] rfl (by simp) (fun j hj => by
            obtain rfl : j = 0 := by simpa using hj
            simp [Addr.add]) (by rw [hbl]; simp; omega)
          rw [hbl, hxn] at hrun
          have HN : Hid (∃ bs : List UInt8, bs.length = n + (m + 1) ∧ BR w W5 g2 c2 bs ∧ U1 u W5 g ∧ (g2 = g ∨ u.heap.size ≤ g2)) := by
            have hal : U1 wr (wr.alloc (.cells #[.int .u8 (x.toNat : Int)] 5)) g := U1.below' ((Below.refl _ _).alloc (Nat.le_refl _) _)
            have hsz := hu.size
            have hua := hu.trans hal
            refine ⟨bs ++ [x], by simp [hbl]; omega, hbr2, ?_, ?_⟩
            · rcases hor with rfl | h
              · exact hua.trans hu1
              · exact hua.then_new hu1 h
            · simp only [World.size_alloc] at hor2
              rcases hor2 with rfl | h
              · exact hor
              · exact .inr (by omega)
          clear hbr hbl hu hor hbr2 hu1 hor2 HJ hx hxn
          go_wp2_with (at_builtin; refine Lib.wpList_append_run _ rfl (.tmp 22) (.tmp 26) 24 24 rfl _ _ rfl rfl _ _ hrun ?_)
          go_roundw
          case rel => exact ⟨m + 1, g2, c2, by omega, by go_num, rfl, hide (unhide HN)⟩
          case measure => simp [intOf]; omega
        · go_wp2
          go_returns
          obtain ⟨bs, _, _, hu, _⟩ := unhide HJ
          exact ⟨rfl, hu⟩
end Go.Proofs.Ytpbifpbblinopaa
