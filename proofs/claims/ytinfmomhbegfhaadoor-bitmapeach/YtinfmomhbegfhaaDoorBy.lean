/- Copy. -/
import Derived.Test.YtinfmomhbegfhaaDoorBm
import Derived.Test.YtinfmomhbegfhaaDoorOwn
namespace Go.Proofs.YtinfmomhbegfhaaDoor
open Go.RowKit

theorem bClone {p q n S : Nat} {w : World} (h : Bm w p q n S) (c : Nat) : Calls Tryd.prog 60 #[.slice (some ⟨q, 0, none⟩) ((n + 63) / 64) c] w fun e w' => ∃ g cap cs, e = .returned (.slice (some ⟨g, 0, none⟩) ((n + 63) / 64) cap) ∧ w.heap.size ≤ g ∧ w'.heap[g]? = some (.cells cs 69 (0, 0)) ∧ (∀ i, i < (n + 63) / 64 → cs[i]? = some (.int .u64 (Bit.word S i : Int))) ∧ Below w.heap.size w w' := by
  obtain ⟨i0, hi, hz0, hz1, hz2⟩ := info_parts infoW
  have hle := h.le
  obtain ⟨m, hm⟩ : ∃ m, m = (n + 63) / 64 := ⟨_, rfl⟩
  have hm2 : m ≤ 1024 := by omega
  have HH := hide h
  have HM := hide hm
  rw [← hm]
  clear h hm
  have HOW : Hid ((w.alloc (.cells #[] 69)).ownsRow w.heap.size 69 1 (.slice (some ⟨w.heap.size, 0, none⟩) 0 0) 0 []) := ⟨rfl, .inr ⟨w.heap.size, 0, #[], rfl, Nat.le_refl _, heap_alloc_new _ _, Nat.le_refl _, by decide, rfl, rfl⟩⟩
  have hnil : ∀ u, (binOp .eql 66 (.slice (some ⟨q, 0, none⟩) m c) (.slice none 0 0)).run Tryd.prog u = .ok (.bool false) u := fun u => by kernel_rfl
  have hbs : ∀ u : World, (Instr.buildSlice 66 0 #[]).run Tryd.prog u = .ok (.slice (some ⟨u.heap.size, 0, none⟩) 0 0) (u.alloc (.cells #[] 69)) := fun u => by kernel_rfl
  go_enter Tryd.func60, Tryd.ntmps60
  go_wp2_with (at_builtin; refine wpList_put _ rfl (.tmp 5) (.tmp 6) 66 rfl w.heap.size 69 i0 (.int .u64 0) 1 8 Tryd.underlying66 hi hz0 hz1 hz2 rfl (by decide) _ _ _ rfl (unhide HOW) ⟨q, 0, none⟩ m c ((List.range m).map fun i => Value.int .u64 (Bit.word S i : Int)) rfl ?c0 ?c1 ?c2 ?c3 ?c4 ?c5 ?_)
  case c0 => simp
  case c1 =>
    intro j u hj
    have hjm : j < m := by have := (List.getElem?_eq_some_iff.1 hj).1; simpa using this
    have e : (⟨q, 0, none⟩ : Addr).add j = ⟨q, j, none⟩ := by cases j <;> simp [Addr.add]
    rw [e]
    have hb := (unhide HH).below ((Below.refl w.heap.size w).alloc (Nat.le_refl _) (.cells #[] 69))
    rw [hb.w j (by rw [← unhide HM]; exact hjm)]
    rw [List.getElem?_map, List.getElem?_range hjm] at hj
    exact hj
  case c2 => intro u hu; obtain ⟨i, _, rfl⟩ := List.mem_map.1 hu; rfl
  case c3 => unfold maxLen; omega
  case c4 => omega
  case c5 => simp
  intro v' w1 hown' hg' hnr
  obtain ⟨g1, g2, g3, g4, g5⟩ := hg'
  have HB : Hid (Below w.heap.size w w1) := ⟨g1, g2, g3, by simp at g4; omega, fun k hk => by
    rw [g5 k (by simp; omega) (by intro e; simp [Value.ownBlock] at e; omega), Below.heap_alloc w _ k (by omega)]⟩
  rcases hown'.2 with ⟨hv, _⟩ | ⟨g, cap, cur, hv, hgb, hgr, hmc, _, _, htk⟩
  · exfalso
    rw [hv] at hnr
    rcases hnr with e | ⟨k, e, _⟩ <;> simp [Value.ownBlock] at e
  · subst hv
    have HG : Hid (∀ i, i < m → cur[i]? = some (.int .u64 (Bit.word S i : Int))) := by
      intro i hi
      have h1 := congrArg (fun l => l[i]?) htk
      simp only [Nat.mul_one] at h1
      rw [List.getElem?_take_of_lt hi, List.getElem?_map, List.getElem?_range hi] at h1
      simpa using h1
    have HR := hide hgr
    have HGB := hide hgb
    clear hown' hnr g1 g2 g3 g4 g5 hgb hgr hmc htk
    go_wp2
    go_ret
    exact ⟨g, cap, cur, rfl, unhide HGB, unhide HR, unhide HG, unhide HB⟩
set_option maxRecDepth 100000 in
theorem bCopy {p q n S : Nat} {w : World} (h : Bm w p q n S) : Calls Tryd.prog 36 #[.pointer (some ⟨p, 0, none⟩)] w fun e w' => ∃ p' q', e = .returned (.pointer (some ⟨p', 0, none⟩)) ∧ w.heap.size ≤ p' ∧ w.heap.size ≤ q' ∧ Bm w' p' q' n S ∧ Below w.heap.size w w' := by
  have h0 := h.c0
  obtain ⟨c, h1⟩ := h.c1
  have HC := hide (bClone h.drew c)
  have HH := hide h
  obtain ⟨m, hm⟩ : ∃ m, m = (n + 63) / 64 := ⟨_, rfl⟩
  rw [← hm] at h1 HC
  have HM := hide hm
  clear h hm
  go_enter Tryd.func36, Tryd.ntmps36
  go_wp2
  go_region_held3 (fun u => u.cell? ⟨p, 0, none⟩ = some (.int .i64 (n : Int)) ∧ u.cell? ⟨p, 1, none⟩ = some (.slice (some ⟨q, 0, none⟩) m c)) (first | exact ⟨h0, h1⟩ | exact hk1 | (go_keep; done) | ((try dsimp only); (repeat' apply And.intro) <;> (go_keep; done))) (first | (go_at_call 60; refine (unhide HC).mono ?_; rintro e w1 ⟨g, cap, cs, rfl, hg, hr, hcs, hb⟩; have hk1 : w1.cell? ⟨p, 0, none⟩ = some (.int .i64 (n : Int)) ∧ w1.cell? ⟨p, 1, none⟩ = some (.slice (some ⟨q, 0, none⟩) m c) := ⟨(hb.cell (p := ⟨p, 0, none⟩) (unhide HH).plt).trans h0, (hb.cell (p := ⟨p, 1, none⟩) (unhide HH).plt).trans h1⟩; have HG := hide hg; have HR := hide hr; have HS := hide hcs; have HB := hide hb; clear hg hr hcs hb))
  have HN := hide (heap_alloc_new w1 (.cells #[.int .i64 (n : Int), .slice (some ⟨g, 0, none⟩) m cap] 68))
  have hb := unhide HB
  have HB' : Hid (Below w.heap.size w w1) := ⟨hb.os, hb.tape, hb.output, hb.size, hb.block⟩
  have hgl : g < w1.heap.size := (Array.getElem?_eq_some_iff.1 (unhide HR)).1
  have HO := hide ((Below.heap_alloc w1 (.cells #[.int .i64 (n : Int), .slice (some ⟨g, 0, none⟩) m cap] 68) g hgl).trans (unhide HR))
  have HGL := hide hgl
  have HW := hide ((unhide HB').alloc (unhide HB').size (.cells #[.int .i64 (n : Int), .slice (some ⟨g, 0, none⟩) m cap] 68))
  clear hb hgl
  go_wp2
  go_ret
  have hm := unhide HM
  subst hm
  exact ⟨w1.heap.size, g, rfl, (unhide HB').size, unhide HG, ⟨⟨⟨cap, unhide HN⟩, ⟨cs, unhide HO, unhide HS⟩, by have := unhide HGL; omega, (unhide HH).le⟩, (unhide HH).lt⟩, unhide HW⟩
end Go.Proofs.YtinfmomhbegfhaaDoor
