/- Text and Sum of a Hash; Of and Cut of the program. -/
import Derived.Test.YtpbifpbblinopaaHsC
namespace Go.Proofs.Ytpbifpbblinopaa
open Go.RowKit

/-- as many of a text's bytes as there is room for -/
theorem copy_str {P : Program} (w : World) (dT sT ty elem : TypeId) (g o dLen dCap : Nat) (s : ByteArray) (cur : Array Value) (t : TypeId)
    (hu : P.underlying dT = some (.slice elem)) (hs : (P.info? elem).map (·.size) = some 1) (hg : w.heap[g]? = some (.cells cur t (0, 0))) (hfit : o + Nat.min s.size dLen ≤ cur.size) :
    (Builtin.copy_ #[dT, sT] ty #[.slice (some ⟨g, o, none⟩) dLen dCap, .string s]).run P w =
      .ok (goInt (Nat.min s.size dLen)) (w.setRow g (splice cur.toList o (Lib.byteCells (s.data.toList.take (Nat.min s.size dLen)))).toArray) := by
  have hsz : s.data.toList.length = s.size := by rw [Array.length_toList]; rfl
  have hlen : (Lib.byteCells (s.data.toList.take (Nat.min s.size dLen))).length = Nat.min s.size dLen := by
    rw [byteCells_len, List.length_take, hsz]; exact Nat.min_eq_left (Nat.min_le_left _ _)
  have hst := run_storeCells_at P g o t (Lib.byteCells (s.data.toList.take (Nat.min s.size dLen))) 0 cur w hg (by rw [hlen]; simpa using hfit) (byteCells_one _)
  have htk : List.take (Nat.min s.size dLen) (List.map (fun b : UInt8 => Value.int IntKind.u8 (b.toNat : Int)) s.data.toList) = Lib.byteCells (s.data.toList.take (Nat.min s.size dLen)) := by
    simp [Lib.byteCells, List.map_take]
  simp only [Nat.add_zero] at hst
  cases hq : P.info? elem with
  | none => simp [hq] at hs
  | some i =>
    simp [Builtin.copy_, run_underlying hu, Builtin.lenOf, Builtin.firstCells, sizeOf, typeInfo, hq]
    rw [htk, hst]
    simp [Result.andThen, splice]
theorem p512Len : Try.prog.arrayLen 70 = 512 := by kernel_rfl
theorem p512Und : Try.prog.underlying 70 = some (.array (Try.prog.arrayLen 70) (Try.prog.elem 70)) := by kernel_rfl
theorem p512Size (W : World) : (sizeOf (Try.prog.elem 70)).run Try.prog W = .ok 1 W := by
  have h : (Try.prog.info? (Try.prog.elem 70)).map (·.size) = some 1 := by kernel_rfl
  cases hq : Try.prog.info? (Try.prog.elem 70) with
  | none => simp [hq] at h
  | some i => simp [sizeOf, typeInfo, hq] at h ⊢; exact h
theorem sl512all (h o : Nat) (W : World) : (Instr.sliceAt 70 (.pointer (some ⟨h, o, none⟩)) none none none).run Try.prog W = .ok (.slice (some ⟨h, o, none⟩) 512 512) W := by
  rw [run_sliceAt_array_all W 70 _ p512Und, p512Size]
  simp only [Result.andThen_ok, slicedAt, p512Len]
  rw [if_neg (by omega), Addr.add_mid]
  rfl
theorem sl512to (h o n : Nat) (hn : n ≤ 512) (W : World) : (Instr.sliceAt 70 (.pointer (some ⟨h, o, none⟩)) none (some (.int .i64 (n : Int))) none).run Try.prog W = .ok (.slice (some ⟨h, o, none⟩) n 512) W := by
  rw [run_sliceAt_array_h W 70 _ p512Und .i64 n (by omega) (by rw [p512Len]; omega), p512Size]
  simp only [Result.andThen_ok, slicedAt, p512Len, Int.toNat_natCast]
  rw [if_neg (by omega), Addr.add_mid]
  rfl
def strLen : Value → Nat
  | .string s => s.size
  | _ => 0
theorem list_size (s : ByteArray) : s.data.toList.length = s.size := by rw [Array.length_toList]; rfl
theorem extract_drop (s : ByteArray) (n : Nat) : (s.extract n s.size).data.toList = s.data.toList.drop n := by
  rw [ByteArray.data_extract, Array.toList_extract, List.extract, ← list_size]
  exact List.take_of_length_le (by simp)
set_option maxRecDepth 100000 in
set_option maxHeartbeats 1000000 in
theorem dText (h : Nat) (l : List UInt8) (s : ByteArray) (w : World) (hh : Hs w h l) (hb : l.length + s.size ≤ 4611686018427387904) (hs : s.size ≤ 140737488355328) :
    Calls Try.prog 28 #[.pointer (some ⟨h, 0, none⟩), .string s] w fun e w' => e = .returned (.tuple #[]) ∧ Hs w' h (l ++ s.data.toList) ∧ U1 w w' h := by
  obtain ⟨b, hbw⟩ : ∃ b, b = w.heap.size := ⟨_, rfl⟩
  have HBW := hide hbw
  have HH := hide hh
  have HB0 := hide hb
  have hlt0 := hh.lt
  clear hh hbw hb
  have infoU : (Try.prog.info? 5).map (·.size) = some 1 := by kernel_rfl
  go_enter Try.func28, Try.ntmps28
  go_wp2_with (refine wpList_alloc_row (by rfl) 70 (by rfl) (some 4) (by rfl) b (by exact (unhide HBW).symm) Z512 zeroP ?_; intro W1 HR1 HB1 HS1; simp only [Act.put, List.setIfInBounds_toArray, List.set_cons_zero, List.set_cons_succ])
  go_loopw [1] (fun v wr => ∃ (k : Nat) (S : ByteArray), v = .string S ∧ S.size ≤ 140737488355328 ∧ Hid (S.data.toList = s.data.toList.drop k ∧ k + S.size = s.size) ∧ Hid ((∃ cur : Array Value, wr.heap[b]? = some (.cells cur 70 (0, 0)) ∧ cur.size = 512) ∧ Hs wr h (l ++ s.data.toList.take k) ∧ U1 w wr h)) (fun v _ => strLen v)
  case atStart =>
    have h1 := unhide HB1
    rw [unhide HBW] at h1
    exact ⟨0, s, rfl, hs, hide ⟨by simp, by omega⟩, hide ⟨⟨Z512, unhide HR1, rfl⟩, by simpa using (unhide HH).below h1, U1.below' h1⟩⟩
  case round =>
    obtain ⟨k, S, rfl, hS, HK, HI⟩ := hrel
    clear HR1 HB1 HS1 HH
    by_cases h0 : S.size = 0
    · have h0i : ¬ (0 : Int) < (S.size : Int) := by omega
      go_wp2
      go_returns
      have hk : k = s.size := by have := (unhide HK).2; omega
      refine ⟨rfl, ?_, (unhide HI).2.2⟩
      have := (unhide HI).2.1
      rwa [List.take_of_length_le (by rw [list_size]; omega)] at this
    · have h0i : (0 : Int) < (S.size : Int) := by omega
      obtain ⟨n, hn⟩ : ∃ n, n = Nat.min S.size 512 := ⟨_, rfl⟩
      have hn5 : n ≤ 512 := by rw [hn]; exact Nat.min_le_right _ _
      have hnS : n ≤ S.size := by rw [hn]; exact Nat.min_le_left _ _
      have hn0 : 0 < n := by rw [hn]; exact Nat.lt_min.2 ⟨by omega, by omega⟩
      obtain ⟨cur, hrow, hcs⟩ := (unhide HI).1
      have hcp := copy_str (P := Try.prog) wr 24 9 3 5 b 0 512 512 S cur 70 Try.underlying24 infoU hrow (by rw [← hn]; omega)
      rw [← hn] at hcp
      have hlen : (S.data.toList.take n).length = n := by rw [List.length_take, list_size]; omega
      have hrow2 := heapRow_same hrow (splice cur.toList 0 (Lib.byteCells (S.data.toList.take n))).toArray
      have hu2 : U1 wr (wr.setRow b (splice cur.toList 0 (Lib.byteCells (S.data.toList.take n))).toArray) b := U1.row _
      have hcs2 : (splice cur.toList 0 (Lib.byteCells (S.data.toList.take n))).toArray.size = 512 := by
        rw [List.size_toArray, splice_len _ _ _ (by rw [byteCells_len, hlen, Array.length_toList]; omega), Array.length_toList, hcs]
      have htk := splice_take cur.toList 0 (Lib.byteCells (S.data.toList.take n)) (by rw [byteCells_len, hlen, Array.length_toList]; omega)
      rw [Nat.zero_add, List.take_zero, List.nil_append, byteCells_len, hlen] at htk
      have htk2 : (splice cur.toList 0 (Lib.byteCells (S.data.toList.take n))).toArray.toList.take n = Lib.byteCells (S.data.toList.take n) := htk
      clear htk
      generalize (splice cur.toList 0 (Lib.byteCells (S.data.toList.take n))).toArray = cur2 at *
      have hne : b ≠ h := by have := unhide HBW; omega
      have hh2 := (unhide HI).2.1.u1 hu2 (Ne.symm hne)
      have HFU := hide ((unhide HI).2.2.then_new hu2 (by rw [unhide HBW]; exact Nat.le_refl _))
      have hsrc : Src (wr.setRow b cur2) h (S.data.toList.take n) (some ⟨b, 0, none⟩) := by
        refine fun _ => ⟨b, 0, rfl, hne, fun j hj => ?_⟩
        have hjn : j < n := by rwa [hlen] at hj
        have h4 : (cur2.toList.take n)[j]? = some (.int .u8 ((S.data.toList.take n)[j].toNat : Int)) := by rw [htk2, byteCells_at _ j hj]
        rw [List.getElem?_take_of_lt hjn, Array.getElem?_toList] at h4
        simp only [World.cell?, hrow2, Nat.zero_add]
        exact h4
      have HWR := hide (dWrite h _ (S.data.toList.take n) (some ⟨b, 0, none⟩) 512 _ hh2 hsrc (by rw [hlen]; exact hn5) (by
        rw [List.length_append, List.length_take, hlen, list_size]; have := unhide HB0; have := (unhide HK).2; omega))
      rw [hlen] at HWR
      have HROW2 : Hid ((wr.setRow b cur2).heap[b]? = some (.cells cur2 70 (0, 0)) ∧ cur2.size = 512) := ⟨hrow2, hcs2⟩
      have hbl : b < (wr.setRow b cur2).heap.size := (Array.getElem?_eq_some_iff.1 hrow2).1
      have hsa := sl512all b 0
      have hst := sl512to b 0 n hn5
      have hni : (n : Int) ≤ (S.size : Int) := by omega
      clear hrow hrow2 hu2 hh2 hcs hcs2 htk2 hsrc hlen hn
      generalize wr.setRow b cur2 = W2 at *
      go_wp2_with fail
      refine (unhide HWR).mono ?_
      rintro e W3 ⟨rfl, hh3, hu3⟩
      have HE : Hid ((S.extract n S.size).data.toList = s.data.toList.drop (k + n) ∧ k + n + (S.extract n S.size).size = s.size ∧ (S.extract n S.size).size + n = S.size) := by
        have e1 := extract_drop S n
        have e2 : (S.extract n S.size).size = S.size - n := by rw [← list_size, e1, List.length_drop, list_size]
        refine ⟨?_, ?_, ?_⟩
        · rw [e1, (unhide HK).1, List.drop_drop]
        · have := (unhide HK).2; omega
        · omega
      have HE2 : Hid (Hs W3 h (l ++ s.data.toList.take (k + n)) ∧ U1 w W3 h ∧ W3.heap[b]? = some (.cells cur2 70 (0, 0)) ∧ cur2.size = 512) := by
        refine ⟨?_, (unhide HFU).trans hu3, (hu3.block b hbl hne).trans (unhide HROW2).1, (unhide HROW2).2⟩
        rw [List.append_assoc, (unhide HK).1] at hh3
        rwa [List.take_add]
      clear hh3 hu3 HWR HROW2 HFU HI
      go_wp2
      generalize S.extract n S.size = S2 at *
      have hs2 : S2.size ≤ 140737488355328 := by have := (unhide HE).2.2; omega
      exact ⟨⟨k + n, S2, rfl, hs2, hide ⟨(unhide HE).1, (unhide HE).2.1⟩, hide ⟨⟨cur2, (unhide HE2).2.2⟩, (unhide HE2).1, (unhide HE2).2.1⟩⟩, by simp only [strLen]; have := (unhide HE).2.2; omega⟩
end Go.Proofs.Ytpbifpbblinopaa
