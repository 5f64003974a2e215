/- The journal: the body of a batch's header. -/
import Derived.Test.YtfdfbjijomepgaaDoorJb
import Derived.Laws.BitsAllLaws
namespace Go.Proofs.YtfdfbjijomepgaaDoor
open Go.RowKit

/-- a number to the base 128, the lowest digit first -/
def uintB : Nat → Nat → List UInt8
  | 0, v => [UInt8.ofNat v]
  | f + 1, v => if v < 128 then [UInt8.ofNat v] else UInt8.ofNat (v % 128 + 128) :: uintB f (v / 128)
theorem uintB_length (f v : Nat) : 1 ≤ (uintB f v).length ∧ (uintB f v).length ≤ f + 1 := by
  induction f generalizing v with
  | zero => simp [uintB]
  | succ f ih =>
    rw [uintB]
    split
    · simp
    · have := ih (v / 128); simp; omega
theorem or128 (u : Nat) : bits .or .u8 ((u : Int) % 256) 128 = ((u % 128 + 128 : Nat) : Int) := by
  rw [u8_or _ _ (by omega) (by omega) (by omega) (by omega)]
  have e1 : ((u : Int) % 256).toNat = u % 256 := by omega
  rw [e1]
  have e2 : (128 : Int).toNat = 128 := rfl
  rw [e2]
  congr 1
  have h : ∀ x : Fin 256, x.1 ||| 128 = x.1 % 128 + 128 := by decide +kernel
  have := h ⟨u % 256, Nat.mod_lt _ (by decide)⟩
  simp only at this
  rw [this]; omega
theorem or128_rng (u : Nat) : 0 ≤ bits .or .u8 ((u : Int) % 256) 128 ∧ bits .or .u8 ((u : Int) % 256) 128 < 256 := by rw [or128]; omega
set_option maxRecDepth 100000 in
set_option maxHeartbeats 400000 in
theorem wUint (a r : Nat) (bs : List UInt8) (v : Nat) (w : World) (h : Wr w a r bs) (hv : v < 18446744073709551616) (hl : bs.length + 10 ≤ 140737488355328) :
    Calls Tryd.prog 55 #[.pointer (some ⟨a, 0, none⟩), .int .u64 v] w fun e w' => e = .returned (.tuple #[]) ∧ ∃ r', Put w w' a r r' (bs ++ uintB 9 v) := by
  go_enter Tryd.func55, Tryd.ntmps55
  go_wp2
  go_loopw [1] (fun x wr => ∃ u f r' : Nat, ∃ acc : List UInt8, u < 18446744073709551616 ∧ x = .int .u64 u ∧ acc.length ≤ 9 ∧ Hid (Put w wr a r r' (bs ++ acc)) ∧ Hid (u < 128 ^ (f + 1) ∧ acc.length + f = 9 ∧ acc ++ uintB f u = uintB 9 v)) (fun x _ => (intOf x).toNat)
  case atStart => exact ⟨v, 9, r, [], hv, rfl, by simp, hide (by simpa using Put.refl h), hide ⟨by omega, by simp, rfl⟩⟩
  case round =>
    obtain ⟨u, f, r1, acc, hu, rfl, hacc, HP, H⟩ := hrel
    by_cases hlt : u < 128
    · go_wp2_with fail
      refine (wByte a r1 (bs ++ acc) (u : Int) _ (unhide HP).1 (by omega) (by omega) ?_).mono ?_
      · rw [List.length_append]; omega
      rintro e w1 ⟨rfl, hp1⟩
      have H1 := hide hp1
      clear hp1
      go_wp2
      go_returns
      obtain ⟨k1, k2, k3⟩ := unhide H
      obtain ⟨r2, hp2⟩ := unhide H1
      have e1 : UInt8.ofNat ((u : Int)).toNat = UInt8.ofNat u := rfl
      have e2 : uintB f u = [UInt8.ofNat u] := by cases f <;> simp [uintB, hlt]
      rw [e1, List.append_assoc, ← e2, k3] at hp2
      exact ⟨rfl, r2, (unhide HP).trans hp2⟩
    · go_wp2_with fail
      refine (wByte a r1 (bs ++ acc) _ _ (unhide HP).1 (or128_rng u).1 (or128_rng u).2 ?_).mono ?_
      · rw [List.length_append]; omega
      rintro e w1 ⟨rfl, hp1⟩
      have H1 := hide hp1
      clear hp1
      go_wp2
      go_roundw
      case rel =>
        obtain ⟨k1, k2, k3⟩ := unhide H
        obtain ⟨r2, hp2⟩ := unhide H1
        match f, k1, k2, k3 with
        | 0, k1, _, _ => exact absurd k1 (by omega)
        | f + 1, k1, k2, k3 =>
        rw [uintB, if_neg hlt] at k3
        have e1 : UInt8.ofNat (bits .or .u8 ((u : Int) % 256) 128).toNat = UInt8.ofNat (u % 128 + 128) := by rw [or128]; rfl
        rw [e1, List.append_assoc] at hp2
        refine ⟨u / 128, f, r2, acc ++ [UInt8.ofNat (u % 128 + 128)], by omega, by go_num, by simp; omega, hide ((unhide HP).trans hp2), hide ⟨?_, by simp; omega, by simpa using k3⟩⟩
        rw [Nat.pow_succ] at k1
        omega
      case measure => simp [intOf]; omega
/-- kinds and numbers, page by page -/
def hdr (l : List Pg) : List UInt8 := l.flatMap fun p => [UInt8.ofNat p.kind] ++ fixB p.num 4
def listB (l : List Pg) : List UInt8 := uintB 9 l.length ++ hdr l
theorem hdr_len (l : List Pg) : (hdr l).length = 5 * l.length := by
  induction l with
  | nil => rfl
  | cons p l ih =>
    simp only [hdr, List.flatMap_cons, List.length_append, fixB_length, List.length_cons, List.length_nil] at ih ⊢
    omega
theorem hdr_take (l : List Pg) (k : Nat) (hk : k < l.length) : hdr (l.take (k + 1)) = hdr (l.take k) ++ [UInt8.ofNat l[k].kind] ++ fixB l[k].num 4 := by
  unfold hdr
  rw [List.take_succ_eq_append_getElem hk, List.flatMap_append, List.append_assoc]
  simp
set_option maxRecDepth 100000 in
set_option maxHeartbeats 1000000 in
theorem jListing (l : List Pg) (hl : ∀ p ∈ l, p.Fit) (ao : Option Addr) (cap : Nat) (u : World) (h : Pgs u ao l) (hn : l.length ≤ 1000000) : Calls Tryd.prog 35 #[.slice ao l.length cap] u fun e u' => e = .returned (.string ⟨(listB l).toArray⟩) ∧ Below u.heap.size u u' := by
  obtain ⟨n, hnn⟩ : ∃ n, n = l.length := ⟨_, rfl⟩
  have hni : (n : Int) ≤ 1000000 := by omega
  have HN := hide hnn
  have HP := hide h
  have HL := hide hl
  obtain ⟨A, hA⟩ : ∃ A, A = u.heap.size := ⟨_, rfl⟩
  have HA := hide hA
  rw [← hnn, ← hA]
  clear h hl hn hnn hA
  go_enter Tryd.func35, Tryd.ntmps35
  go_wp2_with fail
  refine (wNew u).mono ?_
  rintro e w1 ⟨rfl, hw⟩
  have HW1 : Hid (Wr w1 A A []) := by rw [hw, unhide HA]; exact Wr.new u _
  have HB1 : Hid (Below A u w1) := by rw [hw, unhide HA]; exact (Below.refl _ _).alloc (Nat.le_refl _) _
  rw [← unhide HA]
  clear hw
  go_wp2_with fail
  refine (wUint A A [] n w1 (unhide HW1) (by omega) (by simp)).mono ?_
  rintro e w2 ⟨rfl, r2, hp⟩
  rw [List.nil_append] at hp
  have HW2 : Hid (Wr w2 A r2 (uintB 9 n)) := hp.1
  have HB2 : Hid (Below A u w2 ∧ A ≤ r2) := by
    have hAs : A ≤ w1.heap.size := by rw [unhide HA]; exact (unhide HB1).size
    exact ⟨(unhide HB1).trans (hp.below hAs (Nat.le_refl _) (Nat.le_refl _)), hp.2.1.elim (fun h => by omega) (fun h => by omega)⟩
  clear hp
  go_wp2
  go_loopw [14] (fun i wr => ∃ k r : Nat, k ≤ n ∧ i = .int .i64 k ∧ Hid (Wr wr A r (uintB 9 n ++ hdr (l.take k)) ∧ Below A u wr ∧ A ≤ r)) (fun i _ => n - (intOf i).toNat)
  case atStart => exact ⟨0, r2, Nat.zero_le _, rfl, by simpa [hdr] using unhide HW2, (unhide HB2).1, (unhide HB2).2⟩
  case round =>
    obtain ⟨k, r, hk, rfl, HI⟩ := hrel
    by_cases hlt : k < n
    · have hki : (k : Int) < (n : Int) := by omega
      have hkl : k < l.length := by rw [← unhide HN]; exact hlt
      obtain ⟨g, o, hao, hcs⟩ := ((unhide HP).below (by rw [← unhide HA]; exact (unhide HI).2.1)) (by omega)
      subst hao
      have hix := ixPages g o n cap k hlt
      obtain ⟨C, hC⟩ : ∃ C, C = l[k].cs := ⟨_, rfl⟩
      have HR4 : Hid (wr.rangeAt g (o + k * 4) C.toList) := fun j v hv => by
        rw [hC] at hv
        have hj : j < 4 := (List.getElem?_eq_some_iff.1 hv).1
        rw [hcs k hkl j hj, ← Array.getElem?_toList]
        exact hv
      have HCI : Hid ((Tryd.prog.info? 70).map (·.size) = some C.toList.length ∧ (Tryd.prog.info? 70).map (·.size) = some C.size ∧ C.all (·.oneCell') = true ∧ 4 = C.size) := by rw [hC]; exact ⟨pgInfo, pgInfo, by simp [Pg.cs, Value.oneCell'], rfl⟩
      have hfit := unhide HL _ (List.getElem_mem hkl)
      have HTK := hide (hdr_take l k hkl)
      obtain ⟨kd, hkd⟩ : ∃ z, z = l[k].kind := ⟨_, rfl⟩
      obtain ⟨nm, hnm⟩ : ∃ z, z = l[k].num := ⟨_, rfl⟩
      have HCB : Hid (C[0]? = some (.int .u8 (kd : Int)) ∧ C[1]? = some (.int .u32 (nm : Int))) := by rw [hC, hkd, hnm]; exact ⟨rfl, rfl⟩
      have hk1 : kd < 256 := by rw [hkd]; exact hfit.kind
      have hn1 : nm < 4294967296 := by rw [hnm]; exact hfit.num
      have hnmi : (nm : Int) < 4294967296 := by omega
      have hw64 : IntKind.u64.wrap (nm : Int) = (nm : Int) := by rw [IntKind.wrap_u64]; omega
      rw [← hkd, ← hnm] at HTK
      have HLN : Hid ((uintB 9 n ++ hdr (l.take k)).length + 20 ≤ 140737488355328) := by
        show _ ≤ _
        have h1 := (uintB_length 9 n).2
        have h2 : (l.take k).length ≤ n := by rw [unhide HN]; simp; omega
        rw [List.length_append, hdr_len]
        omega
      obtain ⟨N, hNn⟩ : ∃ N, N = wr.heap.size := ⟨_, rfl⟩
      have HNn := hide hNn
      clear hcs hC hNn hkd hnm hfit
      go_wp2_with (first
        | (refine wpList_load_mid (by rfl) 70 (.tmp 16) (by rfl) g (o + k * 4) (by rfl) C.toList _ (unhide HR4) pgUnd rfl (unhide HCI).1 ?_; simp only [Act.put, List.setIfInBounds_toArray, List.set_cons_zero, List.set_cons_succ, Array.toArray_toList])
        | (refine wpList_alloc_row (by rfl) 70 (by rfl) (some 5) (by rfl) N (by exact (unhide HNn).symm) _ zeroPg ?_; intro W1 HX1 HB1' HS1; simp only [Act.put, List.setIfInBounds_toArray, List.set_cons_zero, List.set_cons_succ])
        | (refine wpList_store_row (by rfl) 70 (.tmp 5) (.tmp 17) (by rfl) N C (by rfl) (by rfl) 70 _ (unhide HX1) (unhide HCI).2.1 (unhide HCI).2.2.2 (unhide HCI).2.2.1 ?_; simp only [Act.put]
           have HXC : Hid ((W1.setRow N C).heap[N]? = some (.cells C 70 (0, 0))) := heapRow_same (unhide HX1) _
           have HBC : Hid (Below N wr (W1.setRow N C)) := (by
             have hb2 := unhide HB1'
             exact ⟨hb2.os, hb2.tape, hb2.output, by simpa [World.setRow] using hb2.size, fun q hq => (heapRow_other W1 _ q _ (by omega)).trans (hb2.block q hq)⟩)
           obtain ⟨W2, hW2⟩ : ∃ z, z = W1.setRow N C := ⟨_, rfl⟩
           rw [← hW2] at HXC HBC ⊢
           clear hW2
           have hc0 : W2.cell? ⟨N, 0, none⟩ = some (.int .u8 (kd : Int)) := (by rw [cell_of_row W2 N 0 _ _ _ (unhide HXC)]; exact (unhide HCB).1)))
      have HWA : Hid (Wr W2 A r (uintB 9 n ++ hdr (l.take k))) := (unhide HI).1.same (by have := (unhide HBC).size; have := unhide HNn; omega) ((unhide HBC).block A (by have := (unhide HI).1.1; have := unhide HNn; omega)) ((unhide HBC).block r (by have := (unhide HI).1.2.1; have := unhide HNn; omega))
      have HNE : Hid (N ≠ A ∧ N ≠ r ∧ N < W2.heap.size) := ⟨by have := (unhide HI).1.1; have := unhide HNn; omega, by have := (unhide HI).1.2.1; have := unhide HNn; omega, (Array.getElem?_eq_some_iff.1 (unhide HXC)).1⟩
      refine (wByte A r _ (kd : Int) W2 (unhide HWA) (by omega) (by omega) (by have := unhide HLN; omega)).mono ?_
      rintro e w4 ⟨rfl, r4, hp4⟩
      rw [Int.toNat_natCast] at hp4
      have HP4 := hide hp4
      have hc1 : w4.cell? ⟨N, 1, none⟩ = some (.int .u32 (nm : Int)) := (hp4.2.2.cell (p := ⟨N, 1, none⟩) (unhide HNE).2.2 (unhide HNE).1 (unhide HNE).2.1).trans (by rw [cell_of_row W2 N 1 _ _ _ (unhide HXC)]; exact (unhide HCB).2)
      clear hp4 hc0
      go_wp2_with fail
      refine (wFixed A r4 _ nm 4 w4 (unhide HP4).1 (by decide) (by decide) (by simpa using hn1) (by have := unhide HLN; rw [List.length_append, List.length_singleton]; omega)).mono ?_
      rintro e w5 ⟨rfl, r5, hp5⟩
      have HNX : Hid (Wr w5 A r5 (uintB 9 n ++ hdr (l.take (k + 1))) ∧ Below A u w5 ∧ A ≤ r5) := by
        have hp := (unhide HP4).trans hp5
        refine ⟨?_, ?_, ?_⟩
        · rw [unhide HTK, ← List.append_assoc, ← List.append_assoc]; exact hp5.1
        · have hAw : A ≤ wr.heap.size := by have := (unhide HI).1.1; omega
          have hb1 := (unhide HI).2.1.trans ((unhide HBC).mono (by rw [unhide HNn]; exact hAw))
          exact hb1.trans (hp.below (by have := (unhide HBC).size; have := unhide HNn; omega) (Nat.le_refl _) (unhide HI).2.2)
        · have := (unhide HI).2.2
          have := (unhide HBC).size
          have := (unhide HI).1.1
          have := unhide HNn
          exact hp.2.1.elim (fun h => by omega) (fun h => by omega)
      clear hp5 hc1
      go_wp2
      go_roundw
      case rel => exact ⟨k + 1, r5, by omega, by go_num, HNX⟩
      case measure => simp [intOf]; omega
    · have hkk : k = n := by omega
      subst hkk
      have HTD := hide (wTold A r _ wr (unhide HI).1)
      have HEQ : Hid (uintB 9 k ++ hdr (l.take k) = listB l) := by show _ = _; rw [listB, unhide HN, List.take_length]
      rw [unhide HEQ] at HTD
      go_wp2_with fail
      refine (unhide HTD).mono ?_
      rintro e w6 ⟨rfl, hw⟩
      obtain rfl := hw.symm
      clear hw
      go_wp2
      go_ret
      exact ⟨rfl, (unhide HI).2.1⟩
end Go.Proofs.YtfdfbjijomepgaaDoor
