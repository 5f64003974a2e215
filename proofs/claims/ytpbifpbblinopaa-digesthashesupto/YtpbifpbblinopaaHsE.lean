/- Sum of a Hash; Of and Cut of the program. -/
import Derived.Test.YtpbifpbblinopaaHsD
namespace Go.Proofs.Ytpbifpbblinopaa
open Go.RowKit

theorem wpList_load_arr {P : Program} {ops : Array Oper} {rest : List Oper} {op : Oper} {a : Act} {w : World} {Q : Exit → Act → World → Prop} (hgd : op.guard = none) (ty : TypeId) (x : Operand) (ho : op.op = .load ty x) (d : Option Tmp) (hd : op.dst = d)
    (b o : Nat) (hx : a.eval x = .pointer (some ⟨b, o, none⟩)) (cs : Array Value) (n : Nat) (el : TypeId) (hc : w.rangeAt b o cs.toList)
    (hu : P.underlying ty = some (.array n el)) (hi : (P.info? ty).map (·.size) = some cs.size)
    (h : wpList P ops Q rest (a.put d (.agg cs)) w) : wpList P ops Q (op :: rest) a w :=
  wpList_plain hgd fun _ hK => wp_load_arr ty x ho d hd b o hx cs n el hc hu hi (hK _ _ h)
theorem OwnB.src {w u : World} {v : Value} {bs : List UInt8} (h : OwnB w u v bs) (h0 : 0 < bs.length) : ∃ g cap, v = .slice (some ⟨g, 0, none⟩) bs.length cap ∧ w.heap.size ≤ g ∧ bs.length ≤ cap ∧ ∀ (j : Nat) (hj : j < bs.length), u.cell? ⟨g, 0 + j, none⟩ = some (.int .u8 (bs[j].toNat : Int)) := by
  rcases h.1.2 with ⟨_, h1⟩ | ⟨g, cap, cur, hv, hb, hg, hn, hm, hs, ht⟩
  · omega
  · refine ⟨g, cap, hv, hb, hn, fun j hj => ?_⟩
    have h4 : (cur.toList.take bs.length)[j]? = some (.int .u8 (bs[j].toNat : Int)) := by
      have : cur.toList.take (bs.length * 1) = Lib.byteCells bs := ht
      rw [Nat.mul_one] at this
      rw [this, byteCells_at bs j hj]
    rw [List.getElem?_take_of_lt hj, Array.getElem?_toList] at h4
    simp only [World.cell?, hg, Nat.zero_add]
    exact h4
theorem HC_one (s : Sha.St) (lf : List UInt8) (n : Nat) : (HC s lf n).toArray.all (·.oneCell') = true := by
  refine all_oneCell_toArray fun v hv => ?_
  simp only [HC, List.mem_append, List.mem_singleton] at hv
  rcases hv with hv | hv | rfl
  · simp [St8] at hv; rcases hv with rfl | rfl | rfl | rfl | rfl | rfl | rfl | rfl <;> rfl
  · exact byteCells_one lf v hv
  · rfl
def ofCells (l : List UInt8) : Array Value := (Lib.byteCells (Sha.of l)).toArray
theorem ofCells_size (l : List UInt8) : (ofCells l).size = 32 := by simp [ofCells, byteCells_len, Sha.of_length]
theorem ofCells_one (l : List UInt8) : (ofCells l).all (·.oneCell') = true := all_oneCell_toArray (byteCells_one _)
theorem ofCells_info (l : List UInt8) : (Try.prog.info? 38).map (·.size) = some (ofCells l).size := by rw [ofCells_size]; exact infoS
set_option maxRecDepth 100000 in
set_option maxHeartbeats 1000000 in
theorem dSum (h : Nat) (l : List UInt8) (w : World) (hh : Hs w h l) (hb : l.length ≤ 4611686018427000000) : Calls Try.prog 29 #[.pointer (some ⟨h, 0, none⟩)] w fun e w' => e = .returned (.agg (ofCells l)) ∧ Below w.heap.size w w' := by
  obtain ⟨b, hbw⟩ : ∃ b, b = w.heap.size := ⟨_, rfl⟩
  have HBW := hide hbw
  obtain ⟨lf, ha, ht⟩ := hh.at'
  have HA0 := hide ha
  have HT := hide ht
  have hlt := ha.lt
  obtain ⟨n, hn⟩ : ∃ n, n = l.length := ⟨_, rfl⟩
  rw [← hn] at HA0
  have HN := hide hn
  obtain ⟨cs, hcs⟩ : ∃ cs, cs = (HC (Sha.absorb l) lf n).toArray := ⟨_, rfl⟩
  have HCS := hide hcs
  have hsz : cs.size = 73 := by rw [hcs, List.size_toArray, HC_len, ha.len]
  have hone : cs.all (·.oneCell') = true := by rw [hcs]; exact HC_one _ _ _
  have hi : (Try.prog.info? 69).map (·.size) = some cs.size := by rw [hsz, infoH]
  have hz : Z73.size = cs.size := by rw [hsz]; rfl
  obtain ⟨fs, hu⟩ := undH
  have HU := hide hu
  have hus := Try.underlying38
  have HB0 := hide hb
  clear hu hsz ha ht hh hbw hcs hn hb
  go_enter Try.func29, Try.ntmps29
  go_wp2_with (first | (refine wpList_alloc_row (by rfl) 38 (by rfl) (some 2) (by rfl) b (by exact (unhide HBW).symm) Z32 zeroS ?_; intro W1 HR1 HB1 HS1; have HL1 : Hid (W1.heap[h]? = some (.cells cs 69 (0, 0))) := (by exact ((unhide HB1).block h (by have := unhide HBW; omega)).trans (by rw [unhide HCS]; exact (unhide HA0).row))) | (refine wpList_load_row rfl 69 (.tmp 8) rfl h rfl 69 cs (0, 0) _ (unhide HL1) (unhide HU) rfl hi ?_) | (refine wpList_alloc_row (by rfl) 69 (by rfl) (some 3) (by rfl) (b + 1) (by exact unhide HS1) Z73 zeroH ?_; intro W2 HR2 HB2 HS2) | (refine wpList_store_u1 rfl 69 (.tmp 3) (.tmp 9) rfl (b + 1) cs rfl rfl 69 Z73 (unhide HR2) hi hz hone ?_; intro W3 HR3 HU3; have HK3 : Hid (∀ k, k < b + 1 → W3.heap[k]? = W1.heap[k]?) := (by exact hide fun k hk => ((unhide HU3).block k (by have := unhide HS2; omega) (by omega)).trans ((unhide HB2).block k hk)); have hc3 : W3.cell? ⟨h, 72, none⟩ = some (.int .u64 (n : Int)) := (by exact (HA.keep (unhide HA0) (((unhide HK3) h (by have := unhide HBW; omega)).trans ((unhide HB1).block h (by have := unhide HBW; omega)))).cnt)) )
  have HH3 : Hid (Hs W3 (b + 1) l) := ⟨lf, ⟨by rw [unhide HR3, unhide HCS, unhide HN], (unhide HA0).len⟩, unhide HT⟩
  have HB3 : Hid (Below b w W3 ∧ W3.heap[b]? = some (.cells Z32 38 (0, 0)) ∧ b + 2 ≤ W3.heap.size) := by
    refine ⟨((unhide HB1).trans ((unhide HB2).mono (by omega))).trans ((unhide HU3).toBelow (by have := unhide HS2; omega) (by omega)), ?_, ?_⟩
    · rw [(unhide HK3) b (by omega)]; exact unhide HR1
    · have := (unhide HU3).size; have := unhide HS2; omega
  clear HR1 HB1 HS1 HL1 HR2 HB2 HS2 HR3 HU3 HK3
  refine (dFill n _).mono ?_
  rintro e W4 ⟨v, rfl, ho⟩
  rw [unhide HN] at ho
  obtain ⟨g, cap, rfl, hg, hcap, hsrc⟩ := ho.src (by rw [Sha.fill_len]; omega)
  have hb4 := ho.2
  have HH4 := hide ((unhide HH3).below hb4)
  have HB4 : Hid (Below b w W4 ∧ W4.heap[b]? = some (.cells Z32 38 (0, 0)) ∧ b + 2 ≤ W4.heap.size) := by
    have h3 := unhide HB3
    refine ⟨h3.1.trans (hb4.mono (by omega)), (hb4.block b (by omega)).trans h3.2.1, by have := hb4.size; omega⟩
  have hsrc2 : Src W4 (b + 1) (Sha.fill l.length) (some ⟨g, 0, none⟩) := fun _ => ⟨g, 0, rfl, by have := (unhide HB3).2.2; omega, hsrc⟩
  have HWR := hide (dWrite (b + 1) l (Sha.fill l.length) (some ⟨g, 0, none⟩) cap W4 (unhide HH4) hsrc2 hcap (by rw [Sha.fill_len]; have := unhide HB0; omega))
  clear ho hsrc hb4 hsrc2 HH3 HB3 hc3
  go_wp2_with fail
  refine (unhide HWR).mono ?_
  rintro e W5 ⟨rfl, hh5, hu5⟩
  obtain ⟨lf5, ha5, ht5⟩ := hh5.at'
  have hst := ha5.st
  have HB5 : Hid (Below b w W5 ∧ W5.heap[b]? = some (.cells Z32 38 (0, 0)) ∧ b + 2 ≤ W5.heap.size) := by
    have h4 := unhide HB4
    refine ⟨h4.1.trans (hu5.toBelow (by omega) (by omega)), (hu5.block b (by omega) (by omega)).trans h4.2.1, by have := hu5.size; omega⟩
  clear hh5 hu5 ht5 ha5 HWR HB4 HH4
  have HTO := hide (fun u => dTold (Sha.absorb (l ++ Sha.fill l.length)) (Ok.absorb _) u)
  have HST := hide hst
  clear hst
  go_wp2_with (refine wpList_load_arr rfl 23 (.tmp 16) rfl (some 17) rfl (b + 1) 0 rfl (St8 (Sha.absorb (l ++ Sha.fill l.length))) _ _ (unhide HST) Try.underlying23 info8 ?_)
  refine ((unhide HTO) _).mono ?_
  rintro e W6 ⟨rfl, hb6⟩
  have h6 : W6.heap[b]? = some (.cells Z32 38 (0, 0)) := (hb6.block b (by have := (unhide HB5).2.2; omega)).trans (unhide HB5).2.1
  have HB6 := hide ((unhide HB5).1.trans (hb6.mono (by have := (unhide HB5).2.2; omega)))
  have HS6 : Hid (b + 2 ≤ W6.heap.size) := hide (by have := (unhide HB5).2.2; have := hb6.size; omega)
  clear hb6
  have hsi := ofCells_info l
  go_wp2_with (refine wpList_store_u1 rfl 38 (.tmp 2) (.tmp 18) rfl b (ofCells l) rfl rfl 38 Z32 h6 hsi (by rw [ofCells_size]; rfl) (ofCells_one l) ?_; intro W7 HR7 HU7)
  refine bodyPost_ret (results_cell_row rfl _ _ b 38 (ofCells l) (0, 0) _ rfl (unhide HR7) hus rfl hsi) rfl ?_
  have hbw := unhide HBW
  refine ⟨rfl, ?_⟩
  rw [← hbw]
  exact (unhide HB6).trans ((unhide HU7).toBelow (by have := unhide HS6; omega) (Nat.le_refl _))
end Go.Proofs.Ytpbifpbblinopaa
