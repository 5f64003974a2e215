/- The walk of WireWrites. -/
import Derived.Test.YtpjepndeppckdaaWrites
namespace Go.Proofs.Ytpjepndeppckdaa
open Go.RowKit Go.Lib

set_option maxRecDepth 100000 in
set_option maxHeartbeats 2000000 in
theorem writes_walk (ao : Option Addr) (len cap : Nat) (l : List It) (bo : Option Addr) (blen bcap : Nat) (w : World) (hi : Its w ao len l) (hwt : wt l ≤ 1048576) (hbo : Bools w bo blen) :
    Calls Try.prog 4 #[.slice ao len cap, .slice bo blen bcap] w fun e w' => e = .returned (.bool true) ∧ Below w.heap.size w w' := by
  obtain ⟨hll, hlm, hok, hat⟩ := hi
  have HOK := hide hok
  have HAT := hide hat
  have HLL := hide hll
  have HBO := hide hbo
  have HWT := hide hwt
  clear hok hat hll hbo hwt
  go_enter Try.func4, Try.ntmps4
  go_wp2_with fail
  refine (wNew _).mono ?_
  rintro e w1 ⟨rfl, rfl⟩
  go_wp2_with fail
  refine (wNew _).mono ?_
  rintro e w1 ⟨rfl, rfl⟩
  go_wp2_with fail
  go_loopw [7] (fun i wr => ∃ (k r0 r1 : Nat) (bs0 bs1 : List UInt8), k ≤ len ∧ i = .int .i64 k ∧ Hid (WW w wr r0 r1 bs0 bs1 ∧ bs0.length + bs1.length ≤ 2 * wt (l.take k))) (fun i _ => len - (intOf i).toNat)
  case atStart => exact ⟨0, _, _, [], [], Nat.zero_le _, rfl, hide ⟨WW.start w _ _ _, by simp⟩⟩
  case round =>
    obtain ⟨k, r0, r1, bs0, bs1, hk, rfl, HI⟩ := hrel
    by_cases hlt : k < len
    · obtain ⟨x, hx⟩ : ∃ x, l[k]? = some x := ⟨l[k]'(by rw [unhide HLL]; exact hlt), List.getElem?_eq_getElem _⟩
      have hxok := unhide HOK x (List.mem_of_getElem? hx)
      obtain ⟨ib, io, rfl, hib, hcells⟩ : ∃ b off, ao = some ⟨b, off, none⟩ ∧ b < w.heap.size ∧ x.At w b (off + k * 5) := by
        rcases unhide HAT with h | ⟨b, off, h1, h2, h3⟩
        · omega
        · exact ⟨b, off, h1, h2, h3 k x hx⟩
      obtain ⟨x0, x1, x2, x3, x4⟩ := hcells.below (unhide HI).1.bel hib
      have hkl : (k : Int) < (len : Int) := by omega
      have hwk := wt_take l k x hx
      have HWK := hide hwk
      have HX := hide hxok
      have hsz : x.s.size ≤ 1048576 := by have := unhide HWT; omega
      have hlen2 : (unhide HI).1 = (unhide HI).1 := rfl
      have HFM := hide (fun u => form_all x (unhide HX) u hsz)
      have HPT := hide (fun b r bs u hu hl => put_all x (unhide HX) b r bs u hu hl)
      have hfl := formS_len x
      have hbl : bs0.length + bs1.length ≤ 2097152 := by have := (unhide HI).2; have := unhide HWT; omega
      generalize formS x = fe at *
      obtain ⟨f, E⟩ := fe
      simp only at HFM HPT hfl
      have hfs : (⟨f.toArray⟩ : ByteArray).size = f.length := by show f.toArray.size = _; simp
      generalize hFF : (⟨f.toArray⟩ : ByteArray) = F at *
      clear hxok hx hcells hwk hlen2
      by_cases hw : x.who = 0
      · have hwb : (x.who != 0) = false := by rw [hw]; rfl
        clear hw
        have hS0 : (⟨bs0.toArray⟩ : ByteArray).size = bs0.length := by show bs0.toArray.size = _; simp
        have hcat : (⟨bs0.toArray⟩ : ByteArray) ++ F = ⟨(bs0 ++ f).toArray⟩ := by rw [← hFF]; exact ByteArray.ext (by simp [ByteArray.data_append])
        have HCAT := hide hcat
        have HFF := hide hFF
        clear hcat hFF
        go_wp2_with fail
        refine (unhide HFM _).mono ?_
        rintro e w2 ⟨rfl, hb2⟩
        have h2 := (unhide HI).1.below (((Below.refl _ _).alloc (Nat.le_refl _) _).trans (hb2.mono (by simp)))
        have hy := h2.y0
        have hyf := h2.f0
        have HW2 := hide h2
        have HB2 := hide hb2
        clear h2 hb2 x0 x1 x2 x3 x4
        generalize hA : (⟨bs0.toArray⟩ : ByteArray) = S0 at hS0 hy HCAT
        clear hA
        go_wp2_with fail
        rw [unhide HCAT]
        have hr0 := (unhide HI).1.w0.2.1
        have hq0 := (unhide HI).1.q0
        have hrm := (unhide HI).1.room
        have hs2 : wr.heap.size < w2.heap.size := by have := (unhide HB2).size; simp at this; omega
        have hbx : ∀ i, w2.cell? ⟨wr.heap.size, i, none⟩ = #[Value.int .i64 x.who, .int .i64 x.kind, .int .i64 x.n, .int .u64 x.v, .string x.s][i]? := fun i => by
          rw [(unhide HB2).cell (p := ⟨wr.heap.size, i, none⟩) (by simp), World.cell?_alloc_new]
        have hbx3 : ∀ i, (w2.setCell ⟨w.heap.size + 1 + 1 + 1, 0, none⟩ (.string ⟨(bs0 ++ f).toArray⟩)).cell? ⟨wr.heap.size, i, none⟩ = #[Value.int .i64 x.who, .int .i64 x.kind, .int .i64 x.n, .int .u64 x.v, .string x.s][i]? := fun i => by
          rw [World.cell?_setCell_other _ _ _ _ (fun e => by have := congrArg Addr.block e; simp at this; omega)]; exact hbx i
        have HBX : Hid (∀ w4 r', Put (w2.setCell ⟨w.heap.size + 1 + 1 + 1, 0, none⟩ (.string ⟨(bs0 ++ f).toArray⟩)).drew w4 w.heap.size r0 r' (bs0 ++ f) → ∀ i, w4.cell? ⟨wr.heap.size, i, none⟩ = #[Value.int .i64 x.who, .int .i64 x.kind, .int .i64 x.n, .int .u64 x.v, .string x.s][i]?) := fun w4 r' hp i => by
          rw [hp.2.2.cell (p := ⟨wr.heap.size, i, none⟩) (by show wr.heap.size < (World.setCell _ _ _).heap.size; simp; exact hs2) (by show wr.heap.size ≠ _; omega) (by show wr.heap.size ≠ _; omega)]
          exact hbx3 i
        have HST : Hid (∀ w4 r', Put (w2.setCell ⟨w.heap.size + 1 + 1 + 1, 0, none⟩ (.string ⟨(bs0 ++ f).toArray⟩)).drew w4 w.heap.size r0 r' (bs0 ++ f) → WW w w4 r' r1 (bs0 ++ f) bs1) := fun w4 r' hp => (unhide HW2).step0 hp
        have HWR := hide ((unhide HW2).w0.set (b := w.heap.size + 1 + 1 + 1) (by omega) (by omega) 0 (.string ⟨(bs0 ++ f).toArray⟩))
        have hx0 : (w2.setCell ⟨w.heap.size + 1 + 1 + 1, 0, none⟩ (.string ⟨(bs0 ++ f).toArray⟩)).cell? ⟨w.heap.size + 1 + 1, 0, none⟩ = some (.pointer (some ⟨w.heap.size, 0, none⟩)) := by rw [World.cell?_setCell_other _ _ _ _ (by simp)]; exact (unhide HW2).x0
        have hy0 : (w2.setCell ⟨w.heap.size + 1 + 1 + 1, 0, none⟩ (.string ⟨(bs0 ++ f).toArray⟩)).cell? ⟨w.heap.size + 1 + 1 + 1, 0, none⟩ = some (.string ⟨(bs0 ++ f).toArray⟩) := World.cell?_setCell_same _ _ _ (unhide HW2).y0
        have hTs : ((⟨(bs0 ++ f).toArray⟩ : ByteArray).size : Int) = ((bs0 ++ f).length : Int) := by
          have : (⟨(bs0 ++ f).toArray⟩ : ByteArray).size = (bs0 ++ f).length := by show (bs0 ++ f).toArray.size = _; simp
          rw [this]
        have HLB : Hid ((bs0 ++ f).length + bs1.length ≤ 2 * wt (l.take (k + 1))) := by
          show (bs0 ++ f).length + bs1.length ≤ 2 * wt (l.take (k + 1))
          rw [List.length_append, (unhide HWK).1]
          have := (unhide HI).2
          omega
        have hL3 : (bs0 ++ f).length ≤ 4194304 := by rw [List.length_append]; omega
        have HP0 := hide (fun u hu => unhide HPT w.heap.size r0 bs0 u hu (by omega))
        have c0 := hbx3 0
        have c1 := hbx3 1
        have c2 := hbx3 2
        have c3 := hbx3 3
        have c4 := hbx3 4
        simp only [List.getElem?_toArray, List.getElem?_cons_zero, List.getElem?_cons_succ] at c0 c1 c2 c3 c4
        clear hbx hbx3 HCAT hy hyf HW2 hq0
        generalize w2.setCell ⟨w.heap.size + 1 + 1 + 1, 0, none⟩ (.string ⟨(bs0 ++ f).toArray⟩) = w3 at *
        generalize hTT : (⟨(bs0 ++ f).toArray⟩ : ByteArray) = T at *
        have HTT := hide hTT
        clear hTT
        generalize bs0 ++ f = L at *
        go_region_held3 (fun u => u.cell? ⟨w.heap.size + 1 + 1, 0, none⟩ = some (.pointer (some ⟨w.heap.size, 0, none⟩)) ∧ u.cell? ⟨w.heap.size + 1 + 1 + 1, 0, none⟩ = some (.string T) ∧ u.cell? ⟨wr.heap.size, 0, none⟩ = some (.int .i64 x.who) ∧ u.cell? ⟨wr.heap.size, 1, none⟩ = some (.int .i64 x.kind) ∧ u.cell? ⟨wr.heap.size, 2, none⟩ = some (.int .i64 x.n) ∧ u.cell? ⟨wr.heap.size, 3, none⟩ = some (.int .u64 x.v) ∧ u.cell? ⟨wr.heap.size, 4, none⟩ = some (.string x.s)) (first | (go_keep; done) | exact ⟨zx, zy, z0, z1, z2, z3, z4⟩) (first | (go_at_call 6; refine (unhide HP0 _ (unhide HWR).drew').mono ?_; rintro e w4 ⟨rfl, r', hp⟩; have hn := unhide HST _ _ hp; have zx := hn.x0; have zy := hn.y0; rw [unhide HTT] at zy; have zb := unhide HBX _ _ hp; have z0 := zb 0; have z1 := zb 1; have z2 := zb 2; have z3 := zb 3; have z4 := zb 4; simp only [List.getElem?_toArray, List.getElem?_cons_zero, List.getElem?_cons_succ] at z0 z1 z2 z3 z4; have HN := hide hn; clear hp hn zb) | (go_at_call 7; refine (wLen w.heap.size r' L _ (unhide HN).w0).mono ?_; rintro e w5 ⟨rfl, rfl⟩))
        have HTD : Hid (∀ n, Calls Try.prog 8 #[.pointer (some ⟨w.heap.size, 0, none⟩)] (w5.drewN n) fun e w' => e = .returned (.string T) ∧ w' = w5.drewN n) := fun n => by
          have := wTold w.heap.size r' L (w5.drewN n) ((unhide HN).drewN n).w0
          rw [unhide HTT] at this
          exact this
        by_cases hbk : k < blen
        · obtain ⟨bb, boff, bf, rfl, hbb, hbc⟩ : ∃ b off, ∃ g : Nat → Bool, bo = some ⟨b, off, none⟩ ∧ b < w.heap.size ∧ ∀ j, j < blen → w.cell? ⟨b, off + j, none⟩ = some (.bool (g j)) := by
            rcases (unhide HBO).2 with h | h
            · omega
            · exact h
          have hck : w5.cell? ⟨bb, boff + k, none⟩ = some (.bool (bf k)) := ((unhide HN).bel.cell (p := ⟨bb, boff + k, none⟩) hbb).trans (hbc k hbk)
          have hkb : decide ((k : Int) < (blen : Int)) = true := by rw [decide_eq_true_eq]; omega
          have hkbi : (k : Int) < (blen : Int) := by omega
          clear hbc
          generalize bf k = bk at hck
          cases bk
          all_goals
            go_wp2
            go_quiet (first | (go_at_call 8; exact Calls.quiet_of_same (unhide HTD _)))
            go_wp2
            go_roundw
            case rel => exact ⟨k + 1, r', r1, L, bs1, by omega, by go_num, hide ⟨(unhide HN).drewN _, unhide HLB⟩⟩
            case measure => simp [intOf]; omega
        · have hkb : decide ((k : Int) < (blen : Int)) = false := by rw [decide_eq_false_iff_not]; omega
          have hkbi : ¬ (k : Int) < (blen : Int) := by omega
          go_wp2
          go_quiet (first | (go_at_call 8; exact Calls.quiet_of_same (unhide HTD _)))
          go_wp2
          go_roundw
          case rel => exact ⟨k + 1, r', r1, L, bs1, by omega, by go_num, hide ⟨(unhide HN).drewN _, unhide HLB⟩⟩
          case measure => simp [intOf]; omega
      · have hwb : (x.who != 0) = true := by rw [bne_iff_ne]; exact hw
        clear hw
        have hS0 : (⟨bs1.toArray⟩ : ByteArray).size = bs1.length := by show bs1.toArray.size = _; simp
        have hcat : (⟨bs1.toArray⟩ : ByteArray) ++ F = ⟨(bs1 ++ f).toArray⟩ := by rw [← hFF]; exact ByteArray.ext (by simp [ByteArray.data_append])
        have HCAT := hide hcat
        have HFF := hide hFF
        clear hcat hFF
        go_wp2_with fail
        refine (unhide HFM _).mono ?_
        rintro e w2 ⟨rfl, hb2⟩
        have h2 := (unhide HI).1.below (((Below.refl _ _).alloc (Nat.le_refl _) _).trans (hb2.mono (by simp)))
        have hy := h2.y1
        have hyf := h2.f1
        have HW2 := hide h2
        have HB2 := hide hb2
        clear h2 hb2 x0 x1 x2 x3 x4
        generalize hA : (⟨bs1.toArray⟩ : ByteArray) = S0 at hS0 hy HCAT
        clear hA
        go_wp2_with fail
        rw [unhide HCAT]
        have hr0 := (unhide HI).1.w1.2.1
        have hq0 := (unhide HI).1.q1
        have hrm := (unhide HI).1.room
        have hs2 : wr.heap.size < w2.heap.size := by have := (unhide HB2).size; simp at this; omega
        have hbx : ∀ i, w2.cell? ⟨wr.heap.size, i, none⟩ = #[Value.int .i64 x.who, .int .i64 x.kind, .int .i64 x.n, .int .u64 x.v, .string x.s][i]? := fun i => by
          rw [(unhide HB2).cell (p := ⟨wr.heap.size, i, none⟩) (by simp), World.cell?_alloc_new]
        have hbx3 : ∀ i, (w2.setCell ⟨w.heap.size + 1 + 1 + 1, 1, none⟩ (.string ⟨(bs1 ++ f).toArray⟩)).cell? ⟨wr.heap.size, i, none⟩ = #[Value.int .i64 x.who, .int .i64 x.kind, .int .i64 x.n, .int .u64 x.v, .string x.s][i]? := fun i => by
          rw [World.cell?_setCell_other _ _ _ _ (fun e => by have := congrArg Addr.block e; simp at this; omega)]; exact hbx i
        have HBX : Hid (∀ w4 r', Put (w2.setCell ⟨w.heap.size + 1 + 1 + 1, 1, none⟩ (.string ⟨(bs1 ++ f).toArray⟩)).drew w4 (w.heap.size + 1) r1 r' (bs1 ++ f) → ∀ i, w4.cell? ⟨wr.heap.size, i, none⟩ = #[Value.int .i64 x.who, .int .i64 x.kind, .int .i64 x.n, .int .u64 x.v, .string x.s][i]?) := fun w4 r' hp i => by
          rw [hp.2.2.cell (p := ⟨wr.heap.size, i, none⟩) (by show wr.heap.size < (World.setCell _ _ _).heap.size; simp; exact hs2) (by show wr.heap.size ≠ _; omega) (by show wr.heap.size ≠ _; omega)]
          exact hbx3 i
        have HST : Hid (∀ w4 r', Put (w2.setCell ⟨w.heap.size + 1 + 1 + 1, 1, none⟩ (.string ⟨(bs1 ++ f).toArray⟩)).drew w4 (w.heap.size + 1) r1 r' (bs1 ++ f) → WW w w4 r0 r' bs0 (bs1 ++ f)) := fun w4 r' hp => (unhide HW2).step1 hp
        have HWR := hide ((unhide HW2).w1.set (b := w.heap.size + 1 + 1 + 1) (by omega) (by omega) 1 (.string ⟨(bs1 ++ f).toArray⟩))
        have hx0 : (w2.setCell ⟨w.heap.size + 1 + 1 + 1, 1, none⟩ (.string ⟨(bs1 ++ f).toArray⟩)).cell? ⟨w.heap.size + 1 + 1, 1, none⟩ = some (.pointer (some ⟨(w.heap.size + 1), 0, none⟩)) := by rw [World.cell?_setCell_other _ _ _ _ (by simp)]; exact (unhide HW2).x1
        have hy0 : (w2.setCell ⟨w.heap.size + 1 + 1 + 1, 1, none⟩ (.string ⟨(bs1 ++ f).toArray⟩)).cell? ⟨w.heap.size + 1 + 1 + 1, 1, none⟩ = some (.string ⟨(bs1 ++ f).toArray⟩) := World.cell?_setCell_same _ _ _ (unhide HW2).y1
        have hTs : ((⟨(bs1 ++ f).toArray⟩ : ByteArray).size : Int) = ((bs1 ++ f).length : Int) := by
          have : (⟨(bs1 ++ f).toArray⟩ : ByteArray).size = (bs1 ++ f).length := by show (bs1 ++ f).toArray.size = _; simp
          rw [this]
        have HLB : Hid (bs0.length + (bs1 ++ f).length ≤ 2 * wt (l.take (k + 1))) := by
          show bs0.length + (bs1 ++ f).length ≤ 2 * wt (l.take (k + 1))
          rw [List.length_append, (unhide HWK).1]
          have := (unhide HI).2
          omega
        have hL3 : (bs1 ++ f).length ≤ 4194304 := by rw [List.length_append]; omega
        have HP0 := hide (fun u hu => unhide HPT (w.heap.size + 1) r1 bs1 u hu (by omega))
        have c0 := hbx3 0
        have c1 := hbx3 1
        have c2 := hbx3 2
        have c3 := hbx3 3
        have c4 := hbx3 4
        simp only [List.getElem?_toArray, List.getElem?_cons_zero, List.getElem?_cons_succ] at c0 c1 c2 c3 c4
        clear hbx hbx3 HCAT hy hyf HW2 hq0
        generalize w2.setCell ⟨w.heap.size + 1 + 1 + 1, 1, none⟩ (.string ⟨(bs1 ++ f).toArray⟩) = w3 at *
        generalize hTT : (⟨(bs1 ++ f).toArray⟩ : ByteArray) = T at *
        have HTT := hide hTT
        clear hTT
        generalize bs1 ++ f = L at *
        go_region_held3 (fun u => u.cell? ⟨w.heap.size + 1 + 1, 1, none⟩ = some (.pointer (some ⟨(w.heap.size + 1), 0, none⟩)) ∧ u.cell? ⟨w.heap.size + 1 + 1 + 1, 1, none⟩ = some (.string T) ∧ u.cell? ⟨wr.heap.size, 0, none⟩ = some (.int .i64 x.who) ∧ u.cell? ⟨wr.heap.size, 1, none⟩ = some (.int .i64 x.kind) ∧ u.cell? ⟨wr.heap.size, 2, none⟩ = some (.int .i64 x.n) ∧ u.cell? ⟨wr.heap.size, 3, none⟩ = some (.int .u64 x.v) ∧ u.cell? ⟨wr.heap.size, 4, none⟩ = some (.string x.s)) (first | (go_keep; done) | exact ⟨zx, zy, z0, z1, z2, z3, z4⟩) (first | (go_at_call 6; refine (unhide HP0 _ (unhide HWR).drew').mono ?_; rintro e w4 ⟨rfl, r', hp⟩; have hn := unhide HST _ _ hp; have zx := hn.x1; have zy := hn.y1; rw [unhide HTT] at zy; have zb := unhide HBX _ _ hp; have z0 := zb 0; have z1 := zb 1; have z2 := zb 2; have z3 := zb 3; have z4 := zb 4; simp only [List.getElem?_toArray, List.getElem?_cons_zero, List.getElem?_cons_succ] at z0 z1 z2 z3 z4; have HN := hide hn; clear hp hn zb) | (go_at_call 7; refine (wLen (w.heap.size + 1) r' L _ (unhide HN).w1).mono ?_; rintro e w5 ⟨rfl, rfl⟩))
        have HTD : Hid (∀ n, Calls Try.prog 8 #[.pointer (some ⟨(w.heap.size + 1), 0, none⟩)] (w5.drewN n) fun e w' => e = .returned (.string T) ∧ w' = w5.drewN n) := fun n => by
          have := wTold (w.heap.size + 1) r' L (w5.drewN n) ((unhide HN).drewN n).w1
          rw [unhide HTT] at this
          exact this
        by_cases hbk : k < blen
        · obtain ⟨bb, boff, bf, rfl, hbb, hbc⟩ : ∃ b off, ∃ g : Nat → Bool, bo = some ⟨b, off, none⟩ ∧ b < w.heap.size ∧ ∀ j, j < blen → w.cell? ⟨b, off + j, none⟩ = some (.bool (g j)) := by
            rcases (unhide HBO).2 with h | h
            · omega
            · exact h
          have hck : w5.cell? ⟨bb, boff + k, none⟩ = some (.bool (bf k)) := ((unhide HN).bel.cell (p := ⟨bb, boff + k, none⟩) hbb).trans (hbc k hbk)
          have hkb : decide ((k : Int) < (blen : Int)) = true := by rw [decide_eq_true_eq]; omega
          have hkbi : (k : Int) < (blen : Int) := by omega
          clear hbc
          generalize bf k = bk at hck
          cases bk
          all_goals
            go_wp2
            go_quiet (first | (go_at_call 8; exact Calls.quiet_of_same (unhide HTD _)))
            go_wp2
            go_roundw
            case rel => exact ⟨k + 1, r0, r', bs0, L, by omega, by go_num, hide ⟨(unhide HN).drewN _, unhide HLB⟩⟩
            case measure => simp [intOf]; omega
        · have hkb : decide ((k : Int) < (blen : Int)) = false := by rw [decide_eq_false_iff_not]; omega
          have hkbi : ¬ (k : Int) < (blen : Int) := by omega
          go_wp2
          go_quiet (first | (go_at_call 8; exact Calls.quiet_of_same (unhide HTD _)))
          go_wp2
          go_roundw
          case rel => exact ⟨k + 1, r0, r', bs0, L, by omega, by go_num, hide ⟨(unhide HN).drewN _, unhide HLB⟩⟩
          case measure => simp [intOf]; omega
    · have hke : k = len := by omega
      subst hke
      have hx0 := (unhide HI).1.x0
      have hx1 := (unhide HI).1.x1
      have hy0 := (unhide HI).1.y0
      have hy1 := (unhide HI).1.y1
      have HT0 := hide (fun n => wTold w.heap.size r0 bs0 (wr.drewN n) ((unhide HI).1.drewN n).w0)
      have HT1 := hide (fun n => wTold (w.heap.size + 1) r1 bs1 (wr.drewN n) ((unhide HI).1.drewN n).w1)
      generalize (⟨bs0.toArray⟩ : ByteArray) = T0 at hy0 HT0
      generalize (⟨bs1.toArray⟩ : ByteArray) = T1 at hy1 HT1
      go_wp2
      go_quiet (first | (go_at_call 8; with_reducible exact Calls.quiet_of_same (unhide HT0 _)) | (go_at_call 8; with_reducible exact Calls.quiet_of_same (unhide HT1 _)))
      go_wp2
      go_ret
      exact ⟨rfl, ((unhide HI).1.drewN _).bel⟩
end Go.Proofs.Ytpjepndeppckdaa
