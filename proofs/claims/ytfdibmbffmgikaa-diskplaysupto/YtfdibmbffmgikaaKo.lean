/- The disk: Load. -/
import Derived.Test.YtfdibmbffmgikaaKl
namespace Go.Proofs.Ytfdibmbffmgikaa
open Go.RowKit Go.Lib

/-- a list of texts that lies somewhere -/
def Ts (u : World) (ao : Option Addr) (ls : List ByteArray) : Prop := 0 < ls.length → ∃ g o, ao = some ⟨g, o, none⟩ ∧ ∀ (j : Nat) (hj : j < ls.length), u.cell? ⟨g, o + j, none⟩ = some (.string ls[j])
theorem Ts.below {u u' : World} {ao : Option Addr} {ls : List ByteArray} (h : Ts u ao ls) (hb : Below u.heap.size u u') : Ts u' ao ls := fun h0 => by
  obtain ⟨g, o, h1, h2⟩ := h h0
  exact ⟨g, o, h1, fun j hj => (hb.cell (World.block_lt_of_cell? u _ (h2 j hj))).trans (h2 j hj)⟩
def loads (ls : List ByteArray) : Bool := decide (0 < ls.length ∧ ls.length ≤ 4096) && ls.all (fun s => s.size == 1024)
def Dk.loaded (ls : List ByteArray) : Dk := ⟨ls.map fun s => s.data.toList, [], false, -1⟩
section
variable {B : Nat} {u : World} {D L T : Nat} {v : Value} {f : List Nat} {d : Dk} {F : List Nat}
theorem DskX.relie (h : DskX B u D L T v f d) (l : List (List UInt8)) (hl : l.length = d.lies.length) (h1 : ∀ x ∈ l, x.length = 1024) : DskX B (u.setRow L (img l.flatten)) D L T v f ⟨l, d.pend, d.off, d.fuse⟩ := by
  have ho : ∀ q, q ≠ L → (u.setRow L (img l.flatten)).heap[q]? = u.heap[q]? := fun q hq => heapRow_other u L q _ hq
  have hk := h.ok
  exact ⟨⟨by rw [ho D h.dl, h.blk, hl], heapRow_same h.lies _, (ho T (Ne.symm h.lt)).trans h.last, ownsRow_keep h.pend fun q hq => ho q (fun e => h.vl (e ▸ hq)), by rw [hl]; exact h.flen, h.bD, h.bL, h.bT, h.dl, h.dt, h.lt, h.vd, h.vl, h.vt, ⟨by rw [hl]; exact hk.pos, by rw [hl]; exact hk.max, h1, by rw [hl]; exact hk.pg, hk.f0, hk.f1⟩⟩, h.lst⟩
theorem loadCopy (h : DskX B u D L T v f d) (k : Nat) (hk : k < d.lies.length) (s : ByteArray) (hs : s.size = 1024) :
    (Builtin.copy_ #[28, 9] 3 #[.slice (some ⟨L, k * 1024, none⟩) 1024 1024, .string s]).run Try.prog u = .ok (goInt 1024) (u.setRow L (img (d.lies.set k s.data.toList).flatten)) := by
  have hfl := flat_len d.lies h.ok.len
  have := run_copy_row_string (P := Try.prog) u 28 9 3 5 L (k * 1024) 1024 1024 s (img d.lies.flatten) 78 Try.underlying28 u8Info h.lies (by omega) (by rw [img_size, hfl]; omega)
  rw [this, hs]
  congr 3
  have hd : (d.lies.getD k []).drop 1024 = [] := List.drop_of_length_le (Nat.le_of_eq (h.ok.len _ (getD_mem _ _ hk _)))
  have e := flat_set d.lies h.ok.len k hk s.data.toList 1024 (Nat.le_refl _)
  rw [hd, List.append_nil] at e
  rw [← e]
  show (byteCells d.lies.flatten).take _ ++ byteCells _ ++ (byteCells d.lies.flatten).drop _ = byteCells _
  simp only [byteCells, List.map_append, List.map_take, List.map_drop]
end
theorem lies_step (ls : List ByteArray) (k : Nat) (hk : k < ls.length) : ((ls.take k).map (fun s => s.data.toList) ++ List.replicate (ls.length - k) (zeros 1024)).set k ls[k].data.toList = (ls.take (k + 1)).map (fun s => s.data.toList) ++ List.replicate (ls.length - (k + 1)) (zeros 1024) := by
  have e1 : ls.length - k = (ls.length - (k + 1)) + 1 := by omega
  have e2 : (((ls.take k).map (fun s => s.data.toList)).length) = k := by rw [List.length_map, List.length_take]; omega
  have e3 : ls.take (k + 1) = ls.take k ++ [ls[k]] := by rw [List.take_add_one, List.getElem?_eq_getElem hk]; rfl
  rw [List.set_append_right _ _ (by omega), e2, Nat.sub_self, e1, List.replicate_succ, List.set_cons_zero, e3, List.map_append, List.append_assoc]
  rfl
def LoadPost (u u' : World) (ls : List ByteArray) (e : Ending) : Prop := if loads ls then ∃ D F, e = .returned (.tuple #[.pointer (some ⟨D, 0, none⟩), .int .i64 0]) ∧ Dsk u.heap.size u' D F (Dk.loaded ls) else e = .returned (.tuple #[.pointer none, .int .i64 1])
theorem size_list (s : ByteArray) : s.data.toList.length = s.size := Array.length_toList
set_option maxRecDepth 100000 in
set_option maxHeartbeats 1000000 in
theorem dLoad (ls : List ByteArray) (ao : Option Addr) (cap : Nat) (u : World) (h : Ts u ao ls) : Calls Try.prog 25 #[.slice ao ls.length cap] u fun e u' => Below u.heap.size u u' ∧ LoadPost u u' ls e := by
  by_cases h0 : 0 < ls.length ∧ ls.length ≤ 4096
  · obtain ⟨n, hn⟩ : ∃ n, n = ls.length := ⟨_, rfl⟩
    obtain ⟨g, o, rfl, hc⟩ := h h0.1
    have HN := hide (dNew ls.length h0.1 h0.2 u)
    rw [← hn] at HN
    have HC := hide hc
    have HNN := hide hn
    have hn1 : (n : Int) ≤ 4096 := by omega
    rw [← hn]
    clear h hc hn
    go_enter Try.func25, Try.ntmps25
    go_wp2_with fail
    refine (unhide HN).mono ?_
    rintro e w1 ⟨D, F, rfl, hd, hb⟩
    obtain ⟨L, T, v, f, rfl, hd⟩ := hd
    have hbl : Dk.blank n = ⟨(ls.take 0).map (fun s => s.data.toList) ++ List.replicate (ls.length - 0) (zeros 1024), [], false, -1⟩ := by rw [unhide HNN]; rfl
    rw [hbl] at hd
    have HD := hide (And.intro hd hb)
    clear hd hb hbl HN
    go_wp2
    go_loopw [19] (fun i wr => ∃ k : Nat, k ≤ n ∧ i = .int .i64 k ∧ Hid ((DskX u.heap.size wr D L T v f ⟨(ls.take k).map (fun s => s.data.toList) ++ List.replicate (ls.length - k) (zeros 1024), [], false, -1⟩ ∧ Below u.heap.size u wr) ∧ ∀ j (hj : j < ls.length), j < k → ls[j].size = 1024)) (fun i _ => n - (intOf i).toNat)
    case atStart => exact ⟨0, Nat.zero_le _, rfl, unhide HD, fun j _ h => absurd h (Nat.not_lt_zero _)⟩
    case round =>
      obtain ⟨k, hk, rfl, HI⟩ := hrel
      clear HD
      by_cases hlt : k < n
      · have hki : (k : Int) < (n : Int) := by omega
        have hkl : k < ls.length := by rw [← unhide HNN]; exact hlt
        obtain ⟨⟨hd, hb⟩, hall⟩ := unhide HI
        have hck := unhide HC k hkl
        have hcw : wr.cell? ⟨g, o + k, none⟩ = some (.string ls[k]) := (hb.cell (World.block_lt_of_cell? u _ hck)).trans hck
        by_cases hsz : ls[k].size = 1024
        · have hll : ((ls.take k).map (fun s => s.data.toList) ++ List.replicate (ls.length - k) (zeros 1024)).length = n := by rw [unhide HNN]; simp; omega
          have c0 := hd.c0
          have hcp := loadCopy hd k (by show k < (_ : List (List UInt8)).length; rw [hll]; exact hlt) ls[k] hsz
          have hls : ∀ x ∈ (ls.take (k + 1)).map (fun s => s.data.toList) ++ List.replicate (ls.length - (k + 1)) (zeros 1024), x.length = 1024 := by
            intro x hx
            rcases List.mem_append.1 hx with hx | hx
            · obtain ⟨s, hs, rfl⟩ := List.mem_map.1 hx
              obtain ⟨j, hj, rfl⟩ := List.getElem_of_mem hs
              rw [List.length_take] at hj
              rw [List.getElem_take, size_list]
              rcases Nat.lt_or_ge j k with h | h
              · exact hall j (by omega) h
              · obtain rfl : j = k := by omega
                exact hsz
            · rw [(List.mem_replicate.1 hx).2]; exact zlen _
          have hd2 := hd.relie ((ls.take (k + 1)).map (fun s => s.data.toList) ++ List.replicate (ls.length - (k + 1)) (zeros 1024)) (by show _ = (_ : List (List UInt8)).length; rw [hll, unhide HNN]; simp; omega) hls
          have hst := lies_step ls k hkl
          have hll2 : (⟨(ls.take k).map (fun s => s.data.toList) ++ List.replicate (ls.length - k) (zeros 1024), [], false, -1⟩ : Dk).lies.length = n := hll
          rw [show (⟨(ls.take k).map (fun s => s.data.toList) ++ List.replicate (ls.length - k) (zeros 1024), [], false, -1⟩ : Dk).lies.set k ls[k].data.toList = (ls.take (k + 1)).map (fun s => s.data.toList) ++ List.replicate (ls.length - (k + 1)) (zeros 1024) from hst] at hcp
          rw [hll2] at c0
          have HX : Hid ((DskX u.heap.size (wr.setRow L (img ((ls.take (k + 1)).map (fun s => s.data.toList) ++ List.replicate (ls.length - (k + 1)) (zeros 1024)).flatten)) D L T v f ⟨(ls.take (k + 1)).map (fun s => s.data.toList) ++ List.replicate (ls.length - (k + 1)) (zeros 1024), [], false, -1⟩ ∧ Below u.heap.size u (wr.setRow L (img ((ls.take (k + 1)).map (fun s => s.data.toList) ++ List.replicate (ls.length - (k + 1)) (zeros 1024)).flatten))) ∧ ∀ j (hj : j < ls.length), j < k + 1 → ls[j].size = 1024) :=
            ⟨⟨hd2, belowRow hb hd.bL _⟩, fun j hj hjk => by
              rcases Nat.lt_or_ge j k with h | h
              · exact hall j hj h
              · obtain rfl : j = k := by omega
                exact hsz⟩
          have hix := ixPages L n n k hlt
          have hsp := slPage L (k * 1024)
          have hsi : (ls[k].size : Int) = 1024 := by omega
          generalize wr.setRow L (img ((ls.take (k + 1)).map (fun s => s.data.toList) ++ List.replicate (ls.length - (k + 1)) (zeros 1024)).flatten) = W2 at *
          clear hd2 hd hb hall hls hst hll2 hll HI hck
          generalize ls[k] = s at *
          go_wp2
          go_roundw
          case rel => exact ⟨k + 1, by omega, by go_num, HX⟩
          case measure => simp [intOf]; omega
        · have hsi : ¬ (ls[k].size : Int) = 1024 := by omega
          have HNL : Hid (loads ls = false) := by
            show loads ls = false
            rw [loads, Bool.and_eq_false_iff]
            right
            rw [List.all_eq_false]
            exact ⟨ls[k], List.getElem_mem hkl, by simpa using hsz⟩
          clear hd hb hall hck
          generalize ls[k] = s at *
          go_wp2
          go_ret2
          refine ⟨(unhide HI).1.2, ?_⟩
          unfold LoadPost
          rw [if_neg (by rw [unhide HNL]; decide)]
          rfl
      · have hkk : k = n := by omega
        subst hkk
        go_wp2
        go_ret2
        obtain ⟨⟨hd, hb⟩, hall⟩ := unhide HI
        refine ⟨hb, ?_⟩
        have hL : loads ls = true := by
          rw [loads, Bool.and_eq_true]
          refine ⟨decide_eq_true h0, ?_⟩
          rw [List.all_eq_true]
          intro s hs
          obtain ⟨j, hj, rfl⟩ := List.getElem_of_mem hs
          rw [beq_iff_eq]
          exact hall j hj (by rw [unhide HNN]; exact hj)
        unfold LoadPost
        rw [if_pos hL]
        refine ⟨D, _, rfl, L, T, v, f, rfl, ?_⟩
        rw [unhide HNN, List.take_length, Nat.sub_self, List.replicate_zero, List.append_nil] at hd
        exact hd
  · have hL : loads ls = false := by rw [loads, Bool.and_eq_false_iff]; exact .inl (decide_eq_false h0)
    have HN := hide (dNewBad (ls.length : Int) (by omega) u)
    have HL := hide hL
    clear hL h
    generalize ls.length = n at *
    go_enter Try.func25, Try.ntmps25
    go_wp2_with fail
    refine (unhide HN).mono ?_
    rintro e w1 ⟨rfl, hw⟩
    obtain rfl := hw.symm
    clear hw HN
    go_wp2
    go_ret2
    refine ⟨Below.refl _ _, ?_⟩
    unfold LoadPost
    rw [if_neg (by rw [unhide HL]; decide)]
    rfl
end Go.Proofs.Ytfdibmbffmgikaa
