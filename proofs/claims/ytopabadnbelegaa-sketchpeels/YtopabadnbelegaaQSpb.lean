/- Sketches: copy of cells, From; rises. -/
import Derived.Test.YtopabadnbelegaaQSpa
import Derived.Laws.CopyRow
namespace Go.Proofs.Ytopabadnbelegaa.K
open Go.RowKit Go.Lib
open Go.Proofs.Ytopabadnbelegaa.S (Rec)
theorem run_copyC {w : World} {a g cap c : Nat} {z l : List Ce} {ao : Option Addr} (ty : TypeId) (h : Sk w a g cap z) (hm : RC.At w l ao c) (hz : z.length = l.length) :
    ∃ w', (Builtin.copy_ #[32, 32] ty #[.slice (some ⟨g, 0, none⟩) z.length cap, .slice ao l.length c]).run Try.prog w = .ok (goInt l.length) w' ∧ Sk w' a g cap l ∧ Alt w w' g := by
  obtain ⟨cs, t, hr, hh⟩ := h.row
  have h3 := h.h3
  obtain ⟨gs, os, rfl, hl⟩ := hm.lies (by rw [RC.flat_len]; exact Nat.mul_pos (by omega) RC.hn)
  have hfl : (RC.flat l).length = l.length * 3 := RC.flat_len l
  have hsz : (RC.flat l).length ≤ cs.size := by
    have hfz : (RC.flat z).length = z.length * 3 := RC.flat_len z
    have hv : (RC.flat z)[z.length * 3 - 1]? = some ((RC.flat z)[z.length * 3 - 1]'(by omega)) := List.getElem?_eq_getElem _
    have := (Array.getElem?_eq_some_iff.1 (hh _ _ hv)).1
    omega
  have hl1 := run_loadCells_list (P := Try.prog) w ⟨gs, os, none⟩ (RC.flat l) (fun j v hv => by rw [show ((⟨gs, os, none⟩ : Addr).add j) = ⟨gs, os + j, none⟩ by unfold Addr.add; split <;> simp_all]; exact hl j v hv)
  have hst := run_storeCells_at Try.prog g 0 t (RC.flat l) 0 cs w hr (by omega) (RC.flat_one l)
  obtain ⟨i, z0, hi, _, _, hi3, _⟩ := ceInfo
  refine ⟨w.setRow g (cs.toList.take (0 + 0) ++ RC.flat l ++ cs.toList.drop (0 + 0 + (RC.flat l).length)).toArray, ?_, ?_, ?_⟩
  · rw [hfl] at hl1
    simp [Builtin.copy_, Builtin.lenOf, Builtin.firstCells, sizeOf, typeInfo, hi, hi3, hz, hl1, hst]
  · have hne := h.ne
    refine ⟨?_, ⟨_, t, setRow_heap w g cs _ t _ hr, ?_⟩, h.ne, by omega, by have := h.hm; omega, by have := h.hc; omega⟩
    · rw [setRow_other w g a _ hne, ← hz]
      exact h.box
    · intro j v hv
      have hj : j < (RC.flat l).length := (List.getElem?_eq_some_iff.1 hv).1
      simp only [Nat.add_zero, List.take_zero, List.nil_append, List.getElem?_toArray]
      rw [List.getElem?_append_left hj]
      exact hv
  · exact ⟨rfl, rfl, rfl, by simp [World.setRow], fun k _ hk => setRow_other w g k _ hk⟩
theorem wpList_copyC {ops : Array Oper} {rest : List Oper} {o : Oper} {ac : Act} {w : World} {Q : Exit → Act → World → Prop} (hgd : o.guard = none) (d s : Operand) (ho : o.op = .call { callee := .builtin .copy, args := #[d, s], argTypes := #[32, 32] })
    (a g cap c n m : Nat) (z l : List Ce) (ao : Option Addr) (hn : n = z.length) (hml : m = l.length) (hd : ac.eval d = .slice (some ⟨g, 0, none⟩) n cap) (hs : ac.eval s = .slice ao m c) (h : Sk w a g cap z) (hm : RC.At w l ao c) (hz : z.length = l.length)
    (hk : ∀ w', Hid (Sk w' a g cap l) → Hid (Alt w w' g) → wpList Try.prog ops Q rest (ac.put o.dst (goInt m)) w') : wpList Try.prog ops Q (o :: rest) ac w := by
  subst hn hml
  obtain ⟨w', hr, h1, h2⟩ := run_copyC o.type h hm hz
  refine wpList_plain hgd fun K hK => ?_
  unfold Oper.wp
  simp [execOp, ho, resolve, invoke, builtin, hd, hs, hr, Result.andThen]
  exact hK _ _ (hk w' h1 h2)
set_option maxRecDepth 100000 in
set_option maxHeartbeats 2000000 in
theorem kFrom (l : List Ce) (ao : Option Addr) (c : Nat) (u : World) (h : RC.At u l ao c) (h3 : 3 ≤ l.length) (hm : l.length ≤ 256) : Calls Try.prog 21 #[.slice ao l.length c] u fun e u' => ∃ a g, e = .returned (.tuple #[.pointer (some ⟨a, 0, none⟩), .int .i64 0]) ∧ Sk u' a g l.length l ∧ Below u.heap.size u u' ∧ u.heap.size ≤ a ∧ u.heap.size ≤ g := by
  obtain ⟨n, hn⟩ : ∃ n, n = l.length := ⟨_, rfl⟩
  have HH := hide h
  have HN := hide hn
  rw [← hn] at h3 hm ⊢
  have HK := hide (kNew n h3 hm u)
  have HZL := hide (zerL_len n)
  have hmi : (n : Int) ≤ 256 := by omega
  clear h hn h3 hm
  go_enter Try.func21, Try.ntmps21
  go_wp2_with (first
    | (go_at_call 12; refine (unhide HK).mono ?_; rintro e w1 ⟨a, g, rfl, hs, hb, ha, hg⟩; have HS := hide hs; have HB := hide hb; have HA := hide ha; have HG := hide hg; have z0 := S.cell_one hs.box; rw [unhide HZL] at z0; obtain ⟨w2, hr, hs2, ha2⟩ := run_copyC 3 hs ((unhide HH).below hb) ((unhide HZL).trans (unhide HN)); rw [unhide HZL, ← unhide HN] at hr; have HS2 := hide hs2; have HA2 := hide ha2; clear hs hb ha hg hs2 ha2)
    | fail)
  go_ret2
  exact ⟨a, g, rfl, unhide HS2, (unhide HB).trans ((unhide HA2).below (unhide HG) (unhide HB).size), unhide HA, unhide HG⟩
set_option maxRecDepth 100000 in
set_option maxHeartbeats 2000000 in
theorem lRises (l : List BV) (ao : Option Addr) (c : Nat) (u : World) (h : RW.At u l ao c) (hs : ∀ i (hi : i + 1 < l.length), l[i].toNat ≤ l[i + 1].toNat) : Calls Try.prog 22 #[.slice ao l.length c] u fun e u' => e = .returned (.bool true) ∧ ∃ z, u' = u.drewN z := by
  obtain ⟨n, hn⟩ : ∃ n, n = l.length := ⟨_, rfl⟩
  rw [← hn]
  have HN := hide hn
  have HH := hide h
  have HS := hide hs
  have hnm : (n : Int) ≤ 4398046511000 := by have := h.many; omega
  clear h hn hs
  go_enter Try.func22, Try.ntmps22
  go_wp2
  go_loopw [3] (fun s3 wr => ∃ i : Nat, 1 ≤ i ∧ (i : Int) ≤ 4398046511000 ∧ s3 = .int .i64 (i : Int) ∧ Hid (∃ z, wr = u.drewN z)) (fun s3 _ => n - (intOf s3).toNat)
  case atStart => exact ⟨1, Nat.le_refl _, by decide, rfl, 0, rfl⟩
  case round =>
    obtain ⟨i, h1, hib, rfl, HZ⟩ := hrel
    by_cases hlt : i < n
    · have hii : (i : Int) < (n : Int) := by omega
      obtain ⟨z, hz⟩ := unhide HZ
      have hA := (unhide HH).below (S.belowDrewN (Below.refl _ _) z)
      rw [← hz] at hA
      have hl1 : i < l.length := by rw [← unhide HN]; exact hlt
      obtain ⟨g, o, e1, ix1, a0⟩ := at_ixW hA i hl1
      obtain ⟨g2, o2, e2, ix2, b0⟩ := at_ixW hA (i - 1) (by omega)
      have e3 := e1.symm.trans e2
      cases e3
      subst e1
      have hcmp : l[i - 1].toNat ≤ l[i].toNat := by
        have := unhide HS (i - 1) (by omega)
        simpa [show i - 1 + 1 = i by omega] using this
      rw [← unhide HN] at ix1 ix2
      have ix3 := ix2
      rw [show ((i - 1 : Nat) : Int) = (i : Int) - 1 by omega] at ix3
      have hjw : wrap64 ((i : Int) - 1) = ((i - 1 : Nat) : Int) := by simp only [wrap64]; omega
      generalize l[i - 1]'(by omega) = y1 at *
      generalize l[i] = y2 at *
      have hci : ¬ (y1.toNat : Int) > (y2.toNat : Int) := by omega
      have HLT := hide hlt
      have HZ2 := hide hz
      clear hA hz HZ hcmp hl1 hlt
      go_wp2
      go_region
      go_wp2
      go_roundw
      case rel => exact ⟨i + 1, by omega, by have := unhide HLT; omega, by go_num, z + 1, by rw [unhide HZ2]; rfl⟩
      case measure => have := unhide HLT; simp [intOf]; omega
    · have hii : ¬ (i : Int) < (n : Int) := by omega
      go_wp2
      go_ret
      exact ⟨rfl, unhide HZ⟩
end Go.Proofs.Ytopabadnbelegaa.K
