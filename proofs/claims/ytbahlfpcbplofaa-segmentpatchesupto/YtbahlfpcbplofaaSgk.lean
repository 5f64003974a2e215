/- Segments: turned, anew; the walk of SegmentForms. Written by mksgk.py. -/
import Derived.Test.YtbahlfpcbplofaaSgj
namespace Go.Proofs.Ytbahlfpcbplofaa.S
open Go.RowKit Go.Lib
theorem brSet {w u : World} {g cap : Nat} {bs : List UInt8} (h : D.BR w u g cap bs) (k : Nat) (b : UInt8) : D.BR w (u.setCell ⟨g, k, none⟩ (.int .u8 (b.toNat : Int))) g cap (bs.set k b) := by
  obtain ⟨cur, fr, h1, h2, h3, h4⟩ := h.row
  have hle := h.le
  have hn := D.heapCell_same h1 k (.int .u8 (b.toNat : Int))
  refine ⟨⟨_, fr, hn, by rw [Array.size_setIfInBounds, h2], ?_, fun j hj => ?_⟩, h.ge, by rw [List.length_set]; exact hle, h.max, D.belowCell h.bel (p := ⟨g, k, none⟩) h.ge _⟩
  · rw [List.length_set, Array.toList_setIfInBounds, List.take_set, h3]
    simp [Lib.byteCells, List.map_set]
  · have h5 := h4 j hj
    unfold World.frozen? at h5 ⊢
    rw [hn]
    rw [h1] at h5
    exact h5
theorem brFrozen {w u : World} {g cap : Nat} {bs : List UInt8} (h : D.BR w u g cap bs) (k : Nat) (hk : k < bs.length) : u.frozen? ⟨g, k, none⟩ = false := by
  obtain ⟨cur, fr, h1, h2, h3, h4⟩ := h.row
  exact h4 k (Nat.lt_of_lt_of_le hk h.le)
theorem xor_u8 (b : UInt8) : ∃ c : UInt8, bits .xor .u8 (b.toNat : Int) 1 = (c.toNat : Int) := by
  refine ⟨b ^^^ 1, ?_⟩
  show IntKind.u8.wrap ((BitVec.ofInt 8 (b.toNat : Int) ^^^ BitVec.ofInt 8 1).toNat : Int) = _
  have e1 : BitVec.ofInt 8 (b.toNat : Int) = b.toBitVec := by
    apply BitVec.eq_of_toNat_eq
    simp
  rw [e1]
  have h2 : ((b.toBitVec ^^^ BitVec.ofInt 8 1).toNat : Int) = ((b ^^^ 1).toNat : Int) := rfl
  rw [h2, IntKind.wrap_u8]
  have := (b ^^^ 1).toNat_lt
  omega
theorem ixB (g n c i : Nat) (hi : i < n) (W : World) : (Instr.indexAt 52 (.slice (some ⟨g, 0, none⟩) n c) (.int .i64 (i : Int))).run Try.prog W = .ok (.pointer (some ⟨g, i, none⟩)) W := by
  have he : Try.prog.elem 52 = 5 := by kernel_rfl
  rw [run_indexAt_slice W 52 _ _ _ _ _ (by rw [he]; kernel_rfl), if_pos ⟨by omega, by omega⟩, he, sizeN (n := 1) (by kernel_rfl)]
  simp only [Result.andThen_ok, Int.toNat_natCast, Addr.add_mid, Nat.mul_one, Nat.zero_add]
set_option maxRecDepth 100000 in
set_option maxHeartbeats 2000000 in
theorem lTurned (s : ByteArray) (hs : s.size ≤ 140737488355328) (u : World) : Calls Try.prog 69 #[.string s] u fun e u' => ∃ t, e = .returned (.string t) ∧ Below u.heap.size u u' := by
  obtain ⟨q, hq⟩ : ∃ q, q = s.data.toList := ⟨_, rfl⟩
  obtain rfl : s = ⟨q.toArray⟩ := by rw [hq]
  have hql : q.length ≤ 140737488355328 := by have h : (⟨q.toArray⟩ : ByteArray).size = q.length := List.size_toArray; omega
  clear hq hs
  have HQL := hide hql
  go_enter Try.func69, Try.ntmps69
  go_wp2_with (first
    | ((with_reducible refine wpList_conv (by rfl) (.tmp 5) (by rfl) (some 6) (by rfl) q (by with_unfolding_all rfl) hql ?_); intro g n cap W1 HN HB; simp only [Act.put, List.setIfInBounds_toArray, List.set_cons_zero, List.set_cons_succ])
    | fail)
  have hni : (n : Int) ≤ 140737488355328 := by have := unhide HN; have := unhide HQL; omega
  clear hql
  go_loopw [4] (fun i wr => ∃ (k : Nat) (bs : List UInt8), k ≤ n ∧ i = .int .i64 k ∧ Hid (bs.length = n ∧ D.BR u wr g cap bs)) (fun i _ => n - (intOf i).toNat)
  case atStart => exact ⟨0, q, Nat.zero_le _, rfl, (unhide HN).symm, unhide HB⟩
  case round =>
    clear HB
    obtain ⟨k, bs, hk, rfl, HI⟩ := hrel
    by_cases hlt : k < n
    · have hki : (k : Int) < (n : Int) := by omega
      have hkb : k < bs.length := by rw [(unhide HI).1]; exact hlt
      have hc := (unhide HI).2.cell k hkb
      have hf := brFrozen (unhide HI).2 k hkb
      have hix := ixB g n cap k hlt
      obtain ⟨c, hx⟩ := xor_u8 bs[k]
      have HN2 := hide (brSet (unhide HI).2 k c)
      generalize bs[k] = b at *
      go_wp2
      go_roundw
      case rel => exact ⟨k + 1, bs.set k c, by omega, by go_num, by rw [List.length_set]; exact (unhide HI).1, unhide HN2⟩
      case measure => simp [intOf]; omega
    · obtain rfl : k = n := by omega
      have hki : ¬ (k : Int) < (k : Int) := by omega
      have hrun := br_string (unhide HI).2 (unhide HI).1.symm
      go_wp2
      go_ret
      exact ⟨⟨_, rfl⟩, (unhide HI).2.bel⟩
/- a cell of a list of one's own is written -/
theorem flat_set1 : ∀ (l : List En) (k : Nat) (t : ByteArray) (hk : k < l.length), (RE.flat l).set (k * 2 + 1) (.string t) = RE.flat (l.set k (l[k].1, t))
  | [], _, _, hk => absurd hk (Nat.not_lt_zero _)
  | e :: l, 0, t, _ => by simp [Rec.flat, RE, ecs]
  | e :: l, k + 1, t, hk => by
    have ih := flat_set1 l k t (by simpa using hk)
    have e1 : ∀ (x : En) (m : List En), RE.flat (x :: m) = .string x.1 :: .string x.2 :: RE.flat m := fun x m => rfl
    rw [e1, show (k + 1) * 2 + 1 = k * 2 + 1 + 1 + 1 by omega, List.set_cons_succ, List.set_cons_succ, ih, List.set_cons_succ, e1]
    simp
theorem Own.set1 {w : World} {B : Nat} {l : List En} {g c : Nat} (h : RE.Own w B l (some ⟨g, 0, none⟩) c) (k : Nat) (t : ByteArray) (hk : k < l.length) : RE.Own (w.setCell ⟨g, k * 2 + 1, none⟩ (.string t)) B (l.set k (l[k].1, t)) (some ⟨g, 0, none⟩) c := by
  show (w.setCell ⟨g, k * 2 + 1, none⟩ (.string t)).ownsRow B 43 2 _ (l.set k (l[k].1, t)).length _
  rw [List.length_set]
  have s2 := (World.ownsRow.stored h (k * 2 + 1) (.string t)).1
  rw [flat_set1 l k t hk] at s2
  exact s2
theorem Le.set1 {w : World} {B : Nat} {l : List En} {g n cc : Nat} (h : Le w B l g n cc) (k : Nat) (t : ByteArray) (hk : k < l.length) : Le (w.setCell ⟨g, k * 2 + 1, none⟩ (.string t)) B (l.set k (l[k].1, t)) g n cc := by
  refine ⟨?_, by rw [List.length_set]; exact h.hn, by rw [List.length_set]; exact h.many⟩
  have h1 := Own.set1 h.own k t (by rw [List.length_append]; omega)
  rw [List.getElem_append_left hk, List.set_append_left _ _ hk] at h1
  exact h1
theorem Le.blk {w : World} {B : Nat} {l : List En} {g n cc : Nat} (h : Le w B l g n cc) : B ≤ g ∧ g < w.heap.size := World.ownsRow.lt h.own g rfl
theorem Le.frozen {w : World} {B : Nat} {l : List En} {g n cc : Nat} (h : Le w B l g n cc) (k : Nat) : w.frozen? ⟨g, k, none⟩ = false := World.ownsRow.frozenAt h.own _
theorem Own.empty (W : World) (B : Nat) (hB : B ≤ W.heap.size) : RE.Own (W.alloc (.cells #[] 43)) B [] (some ⟨W.heap.size, 0, none⟩) 0 :=
  ⟨rfl, .inr ⟨W.heap.size, 0, #[], rfl, hB, heap_alloc_new _ _, Nat.le_refl _, by decide, rfl, rfl⟩⟩
set_option maxRecDepth 100000 in
set_option maxHeartbeats 4000000 in
theorem lAnew (x : Int) (l : List En) (B g n cc : Nat) (wd : Int) (u : World) (h : Le u B l g n cc) (hB : B ≤ u.heap.size) (hm : n ≤ 1099511627776) (hsz : ∀ e ∈ l, e.2.size ≤ 140737488355328) : Calls Try.prog 27 #[.int .i64 x, .slice (some ⟨g, 0, none⟩) n cc, .int .i64 wd] u fun e u' => e = .returned (.bool true) ∧ Below B u u' := by
  have HH := hide h
  have HZ := hide hsz
  have hni : (n : Int) ≤ 1099511627776 := by omega
  have HM := hide hm
  have HBU := hide hB
  clear h hm hsz hB
  go_enter Try.func27, Try.ntmps27
  go_wp2
  go_loopw [7] (fun i wr => ∃ (k : Nat) (l' : List En), k ≤ n ∧ i = .int .i64 k ∧ Hid (Le wr B l' g n cc ∧ Below B u wr ∧ ∀ j (hj : j < l'.length), k ≤ j → l'[j].2.size ≤ 140737488355328)) (fun i _ => n - (intOf i).toNat)
  case atStart => exact ⟨0, l, Nat.zero_le _, rfl, unhide HH, Below.refl _ _, fun j hj _ => unhide HZ _ (List.getElem_mem hj)⟩
  case round =>
    clear HH HZ
    obtain ⟨k, l', hk, rfl, HI⟩ := hrel
    by_cases hlt : k < n
    · have hki : (k : Int) < (n : Int) := by omega
      have hkl : k < l'.length := by rw [← (unhide HI).1.hn]; exact hlt
      obtain ⟨g', o, e, c1, c2⟩ := (unhide HI).1.el.en hkl
      cases e
      rw [Nat.zero_add] at c1 c2
      have hix : ∀ W : World, (Instr.indexAt 27 (.slice (some ⟨g, 0, none⟩) n cc) (.int .i64 (k : Int))).run Try.prog W = .ok (.pointer (some ⟨g, k * 2, none⟩)) W := fun W => by
        have := ixE g 0 n cc k hlt W
        rwa [Nat.zero_add] at this
      have HT := hide fun G : World => lTurned l'[k].2 ((unhide HI).2.2 k hkl (Nat.le_refl _)) G
      have HST : Hid (∀ (W : World) (t : ByteArray), Below wr.heap.size wr W → Le (W.setCell ⟨g, k * 2 + 1, none⟩ (.string t)) B (l'.set k (l'[k].1, t)) g n cc ∧ Below B u (W.setCell ⟨g, k * 2 + 1, none⟩ (.string t)) ∧ ∀ j (hj : j < (l'.set k (l'[k].1, t)).length), k + 1 ≤ j → (l'.set k (l'[k].1, t))[j].2.size ≤ 140737488355328) := fun W t hW => by
        have hsz : B ≤ wr.heap.size := Nat.le_trans (unhide HBU) (unhide HI).2.1.size
        refine ⟨((unhide HI).1.below hW).set1 k t hkl, D.belowCell ((unhide HI).2.1.trans (hW.mono hsz)) (p := ⟨g, k * 2 + 1, none⟩) (unhide HI).1.blk.1 _, fun j hj hkj => ?_⟩
        rw [List.getElem_set_ne (by omega)]
        exact (unhide HI).2.2 j (by rw [List.length_set] at hj; exact hj) (by omega)
      have HCK : Hid (∀ W : World, Below wr.heap.size wr W → W.cell? ⟨g, k * 2 + 1, none⟩ = some (.string l'[k].2) ∧ W.frozen? ⟨g, k * 2 + 1, none⟩ = false) := fun W hW => ⟨cell_keep hW c2, ((unhide HI).1.below hW).frozen _⟩
      clear c1
      generalize hq : l'[k] = q at *
      obtain ⟨qk, qs⟩ := q
      have c2 : wr.cell? ⟨g, k * 2 + 1, none⟩ = some (.string qs) := c2
      have HT : Hid (∀ G : World, Calls Try.prog 69 #[.string qs] G fun e u' => ∃ t, e = .returned (.string t) ∧ Below G.heap.size G u') := HT
      clear hq
      generalize k * 2 = oo at *
      go_wp2_with (first
        | (go_at_call 69; refine (unhide HT wr).mono ?_; rintro e W1 ⟨t, rfl, hb⟩; have HN1 := hide (unhide HST W1 t hb); obtain ⟨d1, d2⟩ := unhide HCK W1 hb; clear hb c2)
        | fail)
      go_wp2
      go_roundw
      case rel => exact ⟨k + 1, l'.set k (qk, t), by omega, by go_num, unhide HN1⟩
      case measure => simp [intOf]; omega
    · obtain rfl : k = n := by omega
      have hki : ¬ (k : Int) < (k : Int) := by omega
      have HLE := hide (unhide HI).1
      have HBR := hide (unhide HI).2.1
      have HBW : Hid (B ≤ wr.heap.size) := Nat.le_trans (unhide HBU) (unhide HBR).size
      have HE0 := hide (Own.empty wr wr.heap.size (Nat.le_refl _))
      have HA0 : Hid (RE.At (wr.alloc (.cells #[] 43)) l' (some ⟨g, 0, none⟩) cc) := ((unhide HLE).el.below ((Below.refl _ _).alloc (Nat.le_refl _) _)).toAt
      have HL0 : Hid ((([] : List En).length + l'.length) * 32 ≤ 140737488355328) := by
        rw [List.length_nil, ← (unhide HLE).hn]
        have := unhide HM
        show (0 + k) * 32 ≤ 140737488355328
        omega
      have HKL := hide (unhide HLE).hn
      have HSZ0 : Hid (wr.heap.size ≤ (wr.alloc (.cells #[] 43)).heap.size) := ((Below.refl wr.heap.size wr).alloc (Nat.le_refl _) _).size
      obtain ⟨fb, fr, hfv⟩ : ∃ b r, formV x l' = (b, r) := ⟨_, _, rfl⟩
      obtain ⟨sb, sr, hsv⟩ : ∃ b r, sumV x l' wd = (b, r) := ⟨_, _, rfl⟩
      have HF1 : Hid (∀ (W : World) (ao : Option Addr) (c : Nat), El W l' ao k c → Calls Try.prog 18 #[.int .i64 x, .slice ao k c] W fun e u' => e = .returned (.tuple #[.string fb, .int .i64 fr]) ∧ Below W.heap.size W u') := fun W ao c hW => qForm x l' ao k c W hW (unhide HM) fb fr hfv
      have HF2 : Hid (∀ (W : World) (ao : Option Addr) (c : Nat), El W l' ao k c → Calls Try.prog 19 #[.int .i64 x, .slice ao k c, .int .i64 wd] W fun e u' => e = .returned (.tuple #[.string sb, .int .i64 sr]) ∧ Below W.heap.size W u') := fun W ao c hW => qSum x l' ao k c wd W hW (unhide HM) sb sr hsv
      have HF3 : Hid (∀ (W : World) (ao : Option Addr) (c : Nat), El W l' ao k c → Calls Try.prog 20 #[.int .i64 x, .slice ao k c] W fun e u' => e = .returned (.tuple #[.string fb, .int .i64 fr]) ∧ Below W.heap.size W u') := fun W ao c hW => sForm x l' ao k c W hW (unhide HM) fb fr hfv
      have HF4 : Hid (∀ (W : World) (ao : Option Addr) (c : Nat), El W l' ao k c → Calls Try.prog 21 #[.int .i64 x, .slice ao k c, .int .i64 wd] W fun e u' => e = .returned (.tuple #[.string sb, .int .i64 sr]) ∧ Below W.heap.size W u') := fun W ao c hW => sSum x l' ao k c wd W hW (unhide HM) sb sr hsv
      clear hfv hsv HI
      have HUP : Hid (∀ W : World, Below wr.heap.size wr W → Below B u W ∧ El W l' (some ⟨g, 0, none⟩) k cc) := fun W hW => ⟨(unhide HBR).trans (hW.mono (unhide HBW)), (unhide HLE).el.below hW⟩
      go_wp2_with (first
        | (at_builtin; (with_reducible refine wpList_putE (by rfl) (.tmp 33) (.tmp 34) (by rfl) (some 35) (by rfl) wr.heap.size [] l' 0 k rfl (unhide HKL) (some ⟨wr.heap.size, 0, none⟩) (some ⟨g, 0, none⟩) 0 cc (by with_unfolding_all rfl) (by with_unfolding_all rfl) (unhide HE0) (unhide HA0) (unhide HL0) (unhide HSZ0) ?_); intro x1 n1 c1 W1 HP1; simp only [Act.put, List.setIfInBounds_toArray, List.set_cons_zero, List.set_cons_succ]; have HB1 : Hid (Below wr.heap.size wr W1) := ((Below.refl wr.heap.size wr).alloc (Nat.le_refl _) _).trans (unhide HP1).below; have hn1 : n1 = k := (unhide HP1).len.trans (unhide HKL).symm; subst hn1; have HN1 : Hid (El W1 l' x1 n1 c1) := ⟨(unhide HP1).own.at (unhide HLE).many, unhide HKL⟩)
        | (go_at_call 18; refine (unhide HF1 _ _ _ (unhide HN1)).mono ?_; rintro e W2 ⟨rfl, hb⟩; have HB2 : Hid (Below wr.heap.size wr W2) := (unhide HB1).trans (hb.mono (unhide HB1).size); have HN2 := hide ((unhide HN1).below hb); clear hb)
        | (go_at_call 19; refine (unhide HF2 _ _ _ (unhide HN2)).mono ?_; rintro e W3 ⟨rfl, hb⟩; have HB3 : Hid (Below wr.heap.size wr W3) := (unhide HB2).trans (hb.mono (unhide HB2).size); clear hb)
        | (go_at_call 20; refine (unhide HF3 _ _ _ (unhide HUP _ (unhide HB3)).2).mono ?_; rintro e W4 ⟨rfl, hb⟩; have HB4 : Hid (Below wr.heap.size wr W4) := (unhide HB3).trans (hb.mono (unhide HB3).size); clear hb)
        | (go_at_call 21; refine (unhide HF4 _ _ _ (unhide HUP _ (unhide HB4)).2).mono ?_; rintro e W5 ⟨rfl, hb⟩; have HB5 : Hid (Below wr.heap.size wr W5) := (unhide HB4).trans (hb.mono (unhide HB4).size); clear hb)
        | fail)
      go_ret
      exact ⟨rfl, (unhide HUP _ (unhide HB5)).1⟩
set_option maxRecDepth 100000 in
set_option maxHeartbeats 4000000 in
theorem forms14_walk (x : Int) (l : List En) (ao : Option Addr) (n c : Nat) (wd : Int) (u : World) (h : El u l ao n c) (hm : n ≤ 1099511627776) (hsz : ∀ e ∈ l, e.2.size ≤ 140737488355328) : Calls Try.prog 4 #[.int .i64 x, .slice ao n c, .int .i64 wd] u fun e u' => e = .returned (.bool true) ∧ Below u.heap.size u u' := by
  obtain ⟨fb, fr, hfv⟩ : ∃ b r, formV x l = (b, r) := ⟨_, _, rfl⟩
  obtain ⟨sb, sr, hsv⟩ : ∃ b r, sumV x l wd = (b, r) := ⟨_, _, rfl⟩
  have HLT := hide (lLent l ao n c u h)
  have HUP : Hid (∀ W : World, Below u.heap.size u W → El W l ao n c) := fun W hW => h.below hW
  have HF1 : Hid (∀ (W : World) (ao : Option Addr) (c : Nat), El W l ao n c → Calls Try.prog 18 #[.int .i64 x, .slice ao n c] W fun e u' => e = .returned (.tuple #[.string fb, .int .i64 fr]) ∧ Below W.heap.size W u') := fun W ao c hW => qForm x l ao n c W hW hm fb fr hfv
  have HF2 : Hid (∀ (W : World) (ao : Option Addr) (c : Nat), El W l ao n c → Calls Try.prog 19 #[.int .i64 x, .slice ao n c, .int .i64 wd] W fun e u' => e = .returned (.tuple #[.string sb, .int .i64 sr]) ∧ Below W.heap.size W u') := fun W ao c hW => qSum x l ao n c wd W hW hm sb sr hsv
  have HF3 : Hid (∀ (W : World) (ao : Option Addr) (c : Nat), El W l ao n c → Calls Try.prog 20 #[.int .i64 x, .slice ao n c] W fun e u' => e = .returned (.tuple #[.string fb, .int .i64 fr]) ∧ Below W.heap.size W u') := fun W ao c hW => sForm x l ao n c W hW hm fb fr hfv
  have HF4 : Hid (∀ (W : World) (ao : Option Addr) (c : Nat), El W l ao n c → Calls Try.prog 21 #[.int .i64 x, .slice ao n c, .int .i64 wd] W fun e u' => e = .returned (.tuple #[.string sb, .int .i64 sr]) ∧ Below W.heap.size W u') := fun W ao c hW => sSum x l ao n c wd W hW hm sb sr hsv
  have HV1 : Hid (∀ (W : World) (ao : Option Addr) (c : Nat), El W l ao n c → Calls Try.prog 22 #[.slice ao n c, .int .i64 wd] W fun e u' => e = .returned (.bool (okB l wd)) ∧ Below W.heap.size W u') := fun W ao c hW => sValid l ao n c wd W hW
  have HV2 : Hid (∀ (W : World) (ao : Option Addr) (c : Nat), El W l ao n c → Calls Try.prog 23 #[.slice ao n c, .int .i64 wd] W fun e u' => e = .returned (.bool (okB l wd)) ∧ Below W.heap.size W u') := fun W ao c hW => qValid l ao n c wd W hW
  have HO1 : Hid (∀ (W : World) (ao : Option Addr) (c : Nat), El W l ao n c → Calls Try.prog 24 #[.int .i64 x, .slice ao n c] W fun e u' => e = .returned (.bool (homeB x l)) ∧ Below W.heap.size W u') := fun W ao c hW => sHome x l ao n c W hW
  have HO2 : Hid (∀ (W : World) (ao : Option Addr) (c : Nat), El W l ao n c → Calls Try.prog 25 #[.int .i64 x, .slice ao n c] W fun e u' => e = .returned (.bool (homeB x l)) ∧ Below W.heap.size W u') := fun W ao c hW => qHome x l ao n c W hW
  have HKP : Hid (∀ (W : World) (g cc : Nat), Le W u.heap.size l g n cc → El W l ao n c → Calls Try.prog 26 #[.slice (some ⟨g, 0, none⟩) n cc, .slice ao n c] W fun e u' => e = .returned (.bool true) ∧ Below W.heap.size W u') := fun W g cc h1 h2 => lKept l _ g n cc ao c W h1 h2
  have HAN : Hid (∀ (W : World) (g cc : Nat), Le W u.heap.size l g n cc → u.heap.size ≤ W.heap.size → Calls Try.prog 27 #[.int .i64 x, .slice (some ⟨g, 0, none⟩) n cc, .int .i64 wd] W fun e u' => e = .returned (.bool true) ∧ Below u.heap.size W u') := fun W g cc h1 h2 => lAnew x l _ g n cc wd W h1 h2 hm hsz
  have hok : ∀ b : Bool, (b == b) = true := fun b => by simp
  generalize okB l wd = ok at *
  generalize homeB x l = hb at *
  clear hfv hsv h hm hsz
  go_enter Try.func4, Try.ntmps4
  go_wp2_with (first
    | (go_at_call 17; refine (unhide HLT).mono ?_; rintro e W1 ⟨g, cc, rfl, hl, hb⟩; have HB1 := hide hb; have HL1 := hide hl; clear hb hl)
    | (go_at_call 18; refine (unhide HF1 _ _ _ (unhide HUP _ (unhide HB1))).mono ?_; rintro e W2 ⟨rfl, hb⟩; have HB2 : Hid (Below u.heap.size u W2) := (unhide HB1).trans (hb.mono (unhide HB1).size); have HL2 := hide ((unhide HL1).below hb); clear hb)
    | (go_at_call 19; refine (unhide HF2 _ _ _ (unhide HUP _ (unhide HB2))).mono ?_; rintro e W3 ⟨rfl, hb⟩; have HB3 : Hid (Below u.heap.size u W3) := (unhide HB2).trans (hb.mono (unhide HB2).size); have HL3 := hide ((unhide HL2).below hb); clear hb)
    | (go_at_call 20; refine (unhide HF3 _ _ _ (unhide HL3).el).mono ?_; rintro e W4 ⟨rfl, hb⟩; have HB4 : Hid (Below u.heap.size u W4) := (unhide HB3).trans (hb.mono (unhide HB3).size); have HL4 := hide ((unhide HL3).below hb); clear hb)
    | (go_at_call 21; refine (unhide HF4 _ _ _ (unhide HL4).el).mono ?_; rintro e W5 ⟨rfl, hb⟩; have HB5 : Hid (Below u.heap.size u W5) := (unhide HB4).trans (hb.mono (unhide HB4).size); have HL5 := hide ((unhide HL4).below hb); clear hb)
    | (go_at_call 22; refine (unhide HV1 _ _ _ (unhide HL5).el).mono ?_; rintro e W6 ⟨rfl, hb⟩; have HB6 : Hid (Below u.heap.size u W6) := (unhide HB5).trans (hb.mono (unhide HB5).size); have HL6 := hide ((unhide HL5).below hb); clear hb)
    | (go_at_call 23; refine (unhide HV2 _ _ _ (unhide HUP _ (unhide HB6))).mono ?_; rintro e W7 ⟨rfl, hb⟩; have HB7 : Hid (Below u.heap.size u W7) := (unhide HB6).trans (hb.mono (unhide HB6).size); have HL7 := hide ((unhide HL6).below hb); clear hb)
    | (go_at_call 24; refine (unhide HO1 _ _ _ (unhide HL7).el).mono ?_; rintro e W8 ⟨rfl, hb⟩; have HB8 : Hid (Below u.heap.size u W8) := (unhide HB7).trans (hb.mono (unhide HB7).size); have HL8 := hide ((unhide HL7).below hb); clear hb)
    | (go_at_call 25; refine (unhide HO2 _ _ _ (unhide HUP _ (unhide HB8))).mono ?_; rintro e W9 ⟨rfl, hb⟩; have HB9 : Hid (Below u.heap.size u W9) := (unhide HB8).trans (hb.mono (unhide HB8).size); have HL9 := hide ((unhide HL8).below hb); clear hb)
    | (go_at_call 26; refine (unhide HKP _ _ _ (unhide HL9) (unhide HUP _ (unhide HB9))).mono ?_; rintro e W10 ⟨rfl, hb⟩; have HB10 : Hid (Below u.heap.size u W10) := (unhide HB9).trans (hb.mono (unhide HB9).size); have HL10 := hide ((unhide HL9).below hb); clear hb)
    | (go_at_call 27; refine (unhide HAN _ _ _ (unhide HL10) (unhide HB10).size).mono ?_; rintro e W11 ⟨rfl, hb⟩; have HB11 : Hid (Below u.heap.size u W11) := (unhide HB10).trans hb; clear hb)
    | fail)
  go_ret
  exact ⟨rfl, unhide HB11⟩
end Go.Proofs.Ytbahlfpcbplofaa.S
