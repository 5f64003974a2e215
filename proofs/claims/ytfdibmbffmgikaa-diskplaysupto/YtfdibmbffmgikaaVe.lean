/- The disk's laws, beside the document's disk: a page is read. -/
import Derived.Test.YtfdibmbffmgikaaVb
namespace Go.Proofs.Ytfdibmbffmgikaa
open Go.RowKit Go.Lib

/-- a disk and the document's, apart -/
structure Two (B : Nat) (w : World) (D M : Nat) (F G : List Nat) (d e : Dk) : Prop where
  dk : Dsk B w D F d
  rk : Rk B w M G e
  ap : ∀ k ∈ F, k ∉ G
section
variable {B : Nat} {w w' : World} {D M : Nat} {F G F' : List Nat} {d e d' : Dk}
theorem Two.ge (h : Two B w D M F G d e) : ∀ k ∈ F ++ G, B ≤ k ∧ k < w.heap.size := fun k hk => (List.mem_append.1 hk).elim (h.dk.ge k) (h.rk.ge k)
theorem Two.onD (h : Two B w D M F G d e) (hd : Dsk B w' D F' d') (hu : UpS w w' F) (hf : ∀ k ∈ F', k ∈ F ∨ w.heap.size ≤ k) : Two B w' D M F' G d' e :=
  ⟨hd, h.rk.upd hu (fun k hk hx => h.ap k hx hk), fun k hk hx => (hf k hk).elim (fun h' => h.ap k h' hx) (fun h' => by have := (h.rk.ge k hx).2; omega)⟩
theorem Two.onR (h : Two B w D M F G d e) (hd : Rk B w' M F' d') (hu : UpS w w' G) (hf : ∀ k ∈ F', k ∈ G ∨ w.heap.size ≤ k) : Two B w' D M F F' d d' :=
  ⟨h.dk.upd hu h.ap, hd, fun k hk hx => (hf k hx).elim (h.ap k hk) (fun h' => by have := (h.dk.ge k hk).2; omega)⟩
theorem Two.below (h : Two B w D M F G d e) (hb : Below w.heap.size w w') : Two B w' D M F G d e := ⟨h.dk.below hb, h.rk.below hb, h.ap⟩
theorem Two.upd {K : List Nat} (h : Two B w D M F G d e) (hu : UpS w w' K) (hK : ∀ k ∈ F ++ G, k ∉ K) : Two B w' D M F G d e :=
  ⟨h.dk.upd hu (fun k hk => hK k (by simp [hk])), h.rk.upd hu (fun k hk => hK k (by simp [hk])), h.ap⟩
end
theorem row_own {u : World} {R : Nat} {l : List UInt8} (h : u.heap[R]? = some (.cells (img l) 5 (0, 0))) (hl : l.length ≤ 9223372036854775807) : u.ownsRow 0 5 1 (.slice (some ⟨R, 0, none⟩) l.length l.length) l.length (byteCells l) :=
  ⟨by rw [byteCells_length, Nat.mul_one], .inr ⟨R, l.length, img l, rfl, Nat.zero_le _, h, Nat.le_refl _, hl, by rw [img_size, Nat.mul_one], by show (byteCells l).take _ = _; exact List.take_of_length_le (by rw [byteCells_length, Nat.mul_one]; exact Nat.le_refl _)⟩⟩
set_option maxRecDepth 100000 in
set_option maxHeartbeats 2000000 in
theorem lSpoil (v : Value) (n : Nat) (xs : List Value) (c : UInt8) (u : World) (h : u.ownsRow 0 5 1 v n xs) (hx : ∀ x ∈ xs, ∃ y : Int, x = .int .u8 y) (hn : n ≤ 100000000) :
    Calls Try.prog 50 #[v, .int .u8 (c.toNat : Int)] u fun e u' => e = .returned (.tuple #[]) ∧ UpS u u' v.ownBlock.toList := by
  obtain ⟨i0, hi, hz0, hz1, hz2⟩ := info_parts infoU8
  obtain ⟨ao, cp, hv⟩ := ownsRow_len h
  have HH := hide (And.intro h hx)
  have hni : (n : Int) ≤ 100000000 := by omega
  obtain ⟨bl, hbl⟩ : ∃ z, z = v.ownBlock.toList := ⟨_, rfl⟩
  have HBL := hide hbl
  rw [← hbl]
  clear h hx hbl
  subst hv
  go_enter Try.func50, Try.ntmps50
  go_wp2
  go_loopw [4] (fun i wr => ∃ (k : Nat) (ys : List Value), k ≤ n ∧ i = .int .i64 k ∧ Hid (wr.ownsRow 0 5 1 (.slice ao n cp) n ys ∧ (∀ x ∈ ys, ∃ y : Int, x = .int .u8 y) ∧ UpS u wr bl)) (fun i _ => n - (intOf i).toNat)
  case atStart => exact ⟨0, xs, Nat.zero_le _, rfl, (unhide HH).1, (unhide HH).2, UpS.refl _ _⟩
  case round =>
    obtain ⟨k, ys, hk, rfl, HI⟩ := hrel
    by_cases hlt : k < n
    · have hki : (k : Int) < (n : Int) := by omega
      obtain ⟨ho, hy, hu⟩ := unhide HI
      obtain ⟨g, c2, x, hv, hx, hc, hz⟩ := ownsRow_cell ho k hlt
      obtain ⟨rfl, rfl⟩ : ao = some ⟨g, 0, none⟩ ∧ cp = c2 := by simpa using hv
      obtain ⟨y, rfl⟩ := hy x (List.mem_of_getElem? hx)
      have HNX : Hid ((wr.setCell ⟨g, k, none⟩ (.int .u8 (c.toNat : Int))).ownsRow 0 5 1 (.slice (some ⟨g, 0, none⟩) n cp) n (ys.set k (.int .u8 (c.toNat : Int))) ∧ (∀ x ∈ ys.set k (.int .u8 (c.toNat : Int)), ∃ y : Int, x = .int .u8 y) ∧ UpS u (wr.setCell ⟨g, k, none⟩ (.int .u8 (c.toNat : Int))) bl) :=
        ⟨ownsRow_set ho k _, fun x hx => (List.mem_or_eq_of_mem_set hx).elim (hy x) (fun h => ⟨_, h⟩), hu.setCell (.inl (by rw [unhide HBL]; simp [Value.ownBlock])) _⟩
      clear ho hy hu hv hx HI
      go_wp2
      go_roundw
      case rel => exact ⟨k + 1, _, by omega, by go_num, HNX⟩
      case measure => simp [intOf]; omega
    · have hkk : n = k := by omega
      subst hkk
      obtain ⟨w2, hw2⟩ : ∃ w2, w2 = wr := ⟨_, rfl⟩
      go_wp2
      go_loopw [0, 5] (fun v i wr => ∃ (j m : Nat) (ys : List Value), j ≤ 20 ∧ m ≤ 100000000 + j ∧ i = .int .i64 j ∧ Hid (wr.ownsRow 0 5 1 v m ys ∧ (∀ k, v.ownBlock = some k → k ∈ bl ∨ u.heap.size ≤ k) ∧ UpS u wr bl)) (fun _ i _ => 20 - (intOf i).toNat)
      case atStart => exact ⟨0, n, ys, Nat.zero_le _, by omega, rfl, (unhide HI).1, (fun k hk => .inl (by rw [unhide HBL, hk]; simp)), (unhide HI).2.2⟩
      case round =>
        obtain ⟨j, m, zs, hj, hm, rfl, HJ⟩ := hrel
        by_cases hlt2 : j < 20
        · have hji : (j : Int) < 20 := by omega
          obtain ⟨ho, hbv, hu⟩ := unhide HJ
          obtain ⟨ao3, c3, rfl⟩ := ownsRow_len ho
          have hown : (wr.alloc (.cells #[.int .u8 (c.toNat : Int)] 5)).ownsRow 0 5 1 (.slice ao3 m c3) m zs := ownsRow_keep ho fun q hq => Deep.blk_alloc_lt wr _ q (ho.lt q hq).2
          obtain ⟨v', w5, hrun, hown', hgrow, hnew⟩ := run_append_own' (P := Try.prog) (wr.alloc (.cells #[.int .u8 (c.toNat : Int)] 5)) 0 28 28 5 i0 (.int .u8 0) 1 1 Try.underlying28 hi hz0 hz1 hz2 rfl (by decide) (.slice ao3 m c3) m zs hown ⟨wr.heap.size, 0, none⟩ 1 1 [.int .u8 (c.toNat : Int)] rfl (fun j y hy => by
            rw [Addr.add_mid, Nat.zero_add, cell_of_row _ wr.heap.size j _ _ _ (heap_alloc_new wr _)]
            simpa using hy) (fun y hy => by rw [List.mem_singleton.1 hy]; rfl) (by simp only [maxLen]; omega) (by omega) (Nat.zero_le _)
          have HNX : Hid (w5.ownsRow 0 5 1 v' (m + 1) (zs ++ [.int .u8 (c.toNat : Int)]) ∧ (∀ k, v'.ownBlock = some k → k ∈ bl ∨ u.heap.size ≤ k) ∧ UpS u w5 bl) :=
            ⟨hown', fun k hk => by
              rcases hnew with h | ⟨g, h1, h2⟩
              · exact hbv k (h ▸ hk)
              · rw [hk] at h1; cases h1; have := hu.size; simp at h2; exact .inr (by omega), (hu.alloc _).trans (UpS.ofGrown (F := (Value.slice ao3 m c3).ownBlock.toList) hgrow (fun q hq => .inl (by simp [hq]))) (fun x hx => hbv x (mem_toList hx))⟩
          obtain ⟨ao4, c4, rfl⟩ := ownsRow_len hown'
          clear hown hown' hgrow hnew ho hu hbv HJ
          go_wp2_with (at_builtin; refine append_to (by rfl) (.tmp 20) (.tmp 22) 28 28 (by rfl) (some 23) (by rfl) 28 (by rfl) _ _ (by rfl) (by rfl) _ _ hrun ?_; simp only [Act.put, List.setIfInBounds_toArray, List.set_cons_zero, List.set_cons_succ])
          go_roundw
          case rel => exact ⟨j + 1, m + 1, _, by omega, by omega, by go_num, HNX⟩
          case measure => simp [intOf]; omega
        · have hjj : j = 20 := by omega
          subst hjj
          go_wp2
          go_returns
          exact ⟨rfl, (unhide HJ).2.2⟩
theorem byteCells_int (l : List UInt8) : ∀ x ∈ byteCells l, ∃ y : Int, x = .int .u8 y := fun x hx => by
  obtain ⟨b, _, rfl⟩ := List.mem_map.1 hx
  exact ⟨_, rfl⟩
theorem conv_nil (u : World) : (convert 28 9 (.slice none 0 0)).run Try.prog u = .ok (.string .empty) u := by
  simp [convert, run_underlying Try.underlying28, run_underlying Try.underlying5, run_underlying Try.underlying9, Conv.bytesToString]
section
variable {B : Nat} {w : World} {D M : Nat} {F G : List Nat} {d : Dk}
set_option maxRecDepth 100000 in
set_option maxHeartbeats 2000000 in
theorem lRead (h : Two B w D M F G d d) (hm : d.pend.length ≤ 1000000000) (x : Int) : Calls Try.prog 43 #[.pointer (some ⟨D, 0, none⟩), .pointer (some ⟨M, 0, none⟩), .int .i64 x] w fun e w' => e = .returned (.bool true) ∧ UpS w w' [] := by
  have HH := hide h
  by_cases hr : d.refused x = 0
  · obtain ⟨ho, hx0, hx1⟩ := Dk.refused_zero hr
    obtain ⟨n, rfl⟩ := Int.eq_ofNat_of_zero_le hx0
    have hn : n < d.lies.length := by omega
    have hpl := h.dk.ok.page_len n hn
    have HRR := hide (show Calls Try.prog 49 #[.pointer (some ⟨M, 0, none⟩), .int .i64 (n : Int)] w fun e u' => e = .returned (.tuple #[.string ⟨(d.page n).toArray⟩, .int .i64 0]) ∧ u' = w from by obtain ⟨v1, v2, _, hr⟩ := h.rk; exact rReadOk hr n hn ho hm)
    have HRD : Hid (∀ u, Dsk B u D F d → Calls Try.prog 12 #[.pointer (some ⟨D, 0, none⟩), .int .i64 (n : Int)] u fun e u' => e = .returned (.tuple #[.slice (some ⟨u.heap.size, 0, none⟩) 1024 1024, .int .i64 0]) ∧ u'.heap[u.heap.size]? = some (.cells (img (d.page n)) 5 (0, 0)) ∧ Below u.heap.size u u' ∧ u'.heap.size = u.heap.size + 1) := fun u hu => kReadD hu n hn ho (by omega)
    have HCV : Hid (∀ (W : World) (R : Nat), W.heap[R]? = some (.cells (img (d.page n)) 5 (0, 0)) → (convert 28 9 (.slice (some ⟨R, 0, none⟩) 1024 1024)).run Try.prog W = .ok (.string ⟨(d.page n).toArray⟩) W) := fun W R hW => conv_range (row_range hW) 1024 1024 hpl.symm
    have HSO : Hid (∀ (W : World) (R : Nat) (c : UInt8), W.heap[R]? = some (.cells (img (d.page n)) 5 (0, 0)) → Calls Try.prog 50 #[.slice (some ⟨R, 0, none⟩) 1024 1024, .int .u8 (c.toNat : Int)] W fun e u' => e = .returned (.tuple #[]) ∧ UpS W u' [R]) := fun W R c hW => by
      have h0 := row_own hW (by rw [hpl]; decide)
      rw [hpl] at h0
      exact lSpoil _ 1024 _ c W h0 (byteCells_int _) (by decide)
    generalize (⟨(d.page n).toArray⟩ : ByteArray) = S at *
    clear h hr hx0 hx1 hn hpl ho
    go_enter Try.func43, Try.ntmps43
    go_wp2_with fail
    refine (unhide HRR).mono ?_
    rintro e w1 ⟨rfl, hw⟩
    obtain rfl := hw.symm
    clear hw HRR
    go_wp2_with fail
    refine (unhide HRD w (unhide HH).dk).mono ?_
    rintro e w1 ⟨rfl, hx, hb, hs⟩
    obtain ⟨Ra, hRa⟩ : ∃ z, z = w.heap.size := ⟨_, rfl⟩
    rw [← hRa] at hx
    rw [← hRa]
    have HX1 := hide hx
    have HB1 := hide hb
    have HRa := hide hRa
    clear hx hb hs hRa
    go_wp2_with fail
    refine (unhide HRD w1 ((unhide HH).dk.below (unhide HB1))).mono ?_
    rintro e w2 ⟨rfl, hx, hb, hs⟩
    obtain ⟨Rb, hRb⟩ : ∃ z, z = w1.heap.size := ⟨_, rfl⟩
    rw [← hRb] at hx
    rw [← hRb]
    have HX2 := hide hx
    have HX12 : Hid (w2.heap[Ra]? = some (.cells (img (d.page n)) 5 (0, 0))) := (hb.block Ra (Array.getElem?_eq_some_iff.1 (unhide HX1)).1).trans (unhide HX1)
    have HB2 : Hid (Below w.heap.size w w2) := (unhide HB1).trans (hb.mono (unhide HB1).size)
    have HRb : Hid (Rb ≠ Ra ∧ w.heap.size ≤ Rb) := ⟨by have := (Array.getElem?_eq_some_iff.1 (unhide HX1)).1; omega, by have := (unhide HB1).size; omega⟩
    have hcv1 := unhide HCV w2 Ra (unhide HX12)
    have hcv2 := unhide HCV w2 Rb (unhide HX2)
    clear hx hb hs hRb HX1 HB1
    go_wp2_with fail
    refine (unhide HSO w2 Ra 182 (unhide HX12)).mono ?_
    rintro e w3 ⟨rfl, hu⟩
    have HX3 : Hid (w3.heap[Rb]? = some (.cells (img (d.page n)) 5 (0, 0))) := (hu.block Rb (Array.getElem?_eq_some_iff.1 (unhide HX2)).1 (by simpa using (unhide HRb).1)).trans (unhide HX2)
    have HU3 : Hid (UpS w w3 []) := (UpS.ofBelow [] (unhide HB2)).trans hu (fun x hx => .inr (by rw [List.mem_singleton.1 hx, unhide HRa]; exact Nat.le_refl _))
    have hcv3 := unhide HCV w3 Rb (unhide HX3)
    clear hu hcv1 hcv2 HX2 HX12 HB2
    go_wp2_with fail
    refine (unhide HSO w3 Rb 199 (unhide HX3)).mono ?_
    rintro e w4 ⟨rfl, hu⟩
    have HU4 : Hid (UpS w w4 []) := (unhide HU3).trans hu (fun x hx => .inr (by rw [List.mem_singleton.1 hx]; exact (unhide HRb).2))
    clear hu hcv3 HX3 HU3
    go_wp2_with fail
    refine (unhide HRD w4 ((unhide HH).dk.upd (unhide HU4) (fun _ _ => by simp))).mono ?_
    rintro e w5 ⟨rfl, hx, hb, hs⟩
    have hcv5 := unhide HCV w5 _ hx
    have HU5 : Hid (UpS w w5 []) := (unhide HU4).trans (UpS.ofBelow [] hb) (fun x hx => by cases hx)
    clear hx hb hs HU4
    go_wp2
    go_ret
    exact ⟨rfl, unhide HU5⟩
  · obtain ⟨c, hc⟩ : ∃ c, d.refused x = c := ⟨_, rfl⟩
    have hc0 : c ≠ 0 := by rw [← hc]; exact hr
    have HRR := hide (show Calls Try.prog 49 #[.pointer (some ⟨M, 0, none⟩), .int .i64 x] w fun e u' => e = .returned (.tuple #[.string .empty, .int .i64 c]) ∧ u' = w from by obtain ⟨v1, v2, _, hr⟩ := h.rk; exact rReadBad hr x c hc hc0)
    have HRD : Hid (∀ u, Dsk B u D F d → Calls Try.prog 12 #[.pointer (some ⟨D, 0, none⟩), .int .i64 x] u fun e u' => e = .returned (.tuple #[.slice none 0 0, .int .i64 c]) ∧ u' = u) := fun u hu => by obtain ⟨L, T, v, f, _, hu⟩ := hu; exact kReadBad hu x c hc hc0
    have HSO : Hid (∀ (W : World) (c : UInt8), Calls Try.prog 50 #[.slice none 0 0, .int .u8 (c.toNat : Int)] W fun e u' => e = .returned (.tuple #[]) ∧ UpS W u' []) := fun W c => lSpoil _ 0 [] c W (World.ownsRow_nil _ _ _ _) (fun x hx => by cases hx) (by decide)
    have hcv := conv_nil
    clear h hr hc hc0
    go_enter Try.func43, Try.ntmps43
    go_wp2_with fail
    refine (unhide HRR).mono ?_
    rintro e w1 ⟨rfl, hw⟩
    obtain rfl := hw.symm
    clear hw HRR
    go_wp2_with fail
    refine (unhide HRD w (unhide HH).dk).mono ?_
    rintro e w1 ⟨rfl, hw⟩
    obtain rfl := hw.symm
    clear hw
    go_wp2_with fail
    refine (unhide HRD w (unhide HH).dk).mono ?_
    rintro e w1 ⟨rfl, hw⟩
    obtain rfl := hw.symm
    clear hw
    go_wp2_with fail
    refine (unhide HSO w 182).mono ?_
    rintro e w3 ⟨rfl, hu⟩
    have HU3 := hide hu
    clear hu
    go_wp2_with fail
    refine (unhide HSO w3 199).mono ?_
    rintro e w4 ⟨rfl, hu⟩
    have HU4 : Hid (UpS w w4 []) := (unhide HU3).trans hu (fun x hx => .inl hx)
    clear hu
    go_wp2_with fail
    refine (unhide HRD w4 ((unhide HH).dk.upd (unhide HU4) (fun _ _ => by simp))).mono ?_
    rintro e w5 ⟨rfl, hw⟩
    obtain rfl := hw.symm
    clear hw
    go_wp2
    go_ret
    exact ⟨rfl, unhide HU4⟩
end
end Go.Proofs.Ytfdibmbffmgikaa
