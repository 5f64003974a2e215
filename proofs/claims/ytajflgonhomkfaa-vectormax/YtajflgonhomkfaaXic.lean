/- Vectors: the law's grown. -/
import Derived.Test.YtajflgonhomkfaaXhc
namespace Go.Proofs.Ytajflgonhomkfaa
open Go.RowKit

theorem Sp.belw {u w w' : World} {ao : Option Addr} (h : Sp u w ao) (hb : Below w.heap.size w w') : Sp u w' ao :=
  ⟨hb.os.trans h.os, hb.tape.trans h.tape, hb.output.trans h.output, Nat.le_trans h.size hb.size, fun k hk hg => (hb.block k (Nat.lt_of_lt_of_le hk h.size)).trans (h.block k hk hg)⟩
theorem Sp.refl (u : World) (ao : Option Addr) : Sp u u ao := ⟨rfl, rfl, rfl, Nat.le_refl _, fun _ _ _ => rfl⟩
/-- this list lies where that one lies, or in a new block -/
def Near (u : World) (ao xo : Option Addr) : Prop := ∀ g o, xo = some ⟨g, o, none⟩ → (∃ o', ao = some ⟨g, o', none⟩) ∨ u.heap.size ≤ g
theorem Sp.grown {u w w' : World} {ao xo : Option Addr} {B cc : Nat} {l : List (Nat × Nat)} (h : Sp u w ao) (ho : OwnD w B l xo cc) (hn : Near u ao xo) (hg : w.grownBy w' (Value.slice xo l.length cc).ownBlock) : Sp u w' ao := by
  refine ⟨hg.os.trans h.os, hg.tape.trans h.tape, hg.output.trans h.output, Nat.le_trans h.size hg.size, fun k hk hx => (hg.block k (Nat.lt_of_lt_of_le hk h.size) (fun e => ?_)).trans (h.block k hk hx)⟩
  have h1 : (Value.slice xo l.length cc).ownBlock = some k := e.symm
  rcases ho.2 with ⟨hv, _⟩ | ⟨g2, cap2, cur2, hv, _⟩
  · rw [hv] at h1; cases h1
  · rw [hv] at h1; cases h1
    simp only [Value.slice.injEq] at hv
    rcases hn _ _ hv.1 with ⟨o', he⟩ | h2
    · exact hx _ he rfl
    · exact absurd hk (Nat.not_lt.2 h2)
theorem Near.step {u w : World} {ao xo x2 : Option Addr} (h : Near u ao xo) (hw : u.heap.size ≤ w.heap.size) (hs : ∀ g o, x2 = some ⟨g, o, none⟩ → (∃ o', xo = some ⟨g, o', none⟩) ∨ w.heap.size ≤ g) : Near u ao x2 := fun g o he => by
  rcases hs g o he with ⟨o', h1⟩ | h1
  · exact h g o' h1
  · exact .inr (Nat.le_trans hw h1)
set_option maxRecDepth 100000 in
set_option maxHeartbeats 4000000 in
theorem lGrown (x : Nat) (hx : x ≤ 1000) (L : List (Nat × Nat)) (nl : Nat) (hnl : nl = L.length) (hl : nl ≤ 1000) (ao : Option Addr) (c B : Nat) (u : World) (hB : B ≤ u.heap.size) (h : OwnD u B L ao c) :
    Calls Try.prog 23 #[.slice ao nl c, .int .u64 (x : Int)] u fun e u' => ∃ xo nn cc, e = .returned (.slice xo nn cc) ∧ nn = nl + 70 ∧ Sp u u' ao := by
  have HM := hide (lMark x hx)
  have H0 := hide h
  have HL := hide hnl
  have HBB := hide hB
  have HX : Hid (1125899906842624 + x < 18446744073709551616) := by show _ < _; omega
  clear h hx hnl hB
  generalize 1125899906842624 + x = r at *
  go_enter Try.func23, Try.ntmps23
  go_wp2_with fail
  go_loopw [0, 5] (fun s0 s5 wr => ∃ (l2 : List (Nat × Nat)) (xo : Option Addr) (m i cc : Nat), s0 = .slice xo m cc ∧ s5 = .int .i64 (i : Int) ∧ i ≤ 70 ∧ Hid (m = l2.length) ∧ Hid (m = nl + i) ∧ Hid (OwnD wr B l2 xo cc) ∧ Hid (Sp u wr ao) ∧ Hid (Near u ao xo)) (fun _ s5 _ => 70 - (intOf s5).toNat)
  case atStart => exact ⟨L, ao, nl, 0, c, rfl, rfl, Nat.zero_le _, unhide HL, rfl, unhide H0, Sp.refl _ _, fun g o h => .inl ⟨o, h⟩⟩
  case round =>
    clear H0
    obtain ⟨l2, xo, m, i, cc, rfl, rfl, hi, HML, HMI, HO, HS, HNR⟩ := hrel
    by_cases hlt : i < 70
    · have hii : (i : Int) < 70 := by omega
      have HLE : Hid (l2.length + [(77, r)].length ≤ 8796093022208) := by
        have h1 := unhide HML
        have h2 := unhide HMI
        show l2.length + 1 ≤ _; omega
      go_wp2_with (first
        | (go_at_call 49; refine (unhide HM _).mono ?_; rintro e w1 ⟨rfl, hb1⟩; have hb2 : Below w1.heap.size w1 (w1.alloc (.cells #[.int .u32 77, .int .u64 (r : Int)] 29)) := (Below.refl _ _).alloc (Nat.le_refl _) _; have HO2 := hide (((unhide HO).below hb1).below hb2); have HS2 := hide (((unhide HS).belw hb1).belw hb2); clear hb1 hb2)
        | (at_builtin; refine wpList_putD (by rfl) (.tmp 10) (.tmp 13) (by rfl) (some 14) (by rfl) B l2 [(77, r)] m 1 (unhide HML) rfl xo (some ⟨w1.heap.size, 0, none⟩) cc 1 (by rfl) (by rfl) (unhide HO2) (Dv.one w1 (77, r) 29) (unhide HLE) (Nat.le_trans (unhide HBB) (unhide HS2).size) ?_; intro x3 n3 c3 w3 HN3 HO3 HG3 _ HNR3; simp only [Act.put, List.setIfInBounds_toArray, List.set_cons_zero, List.set_cons_succ]; have HS3 := hide ((unhide HS2).grown (unhide HO2) (unhide HNR) (unhide HG3)); have HNR4 := hide ((unhide HNR).step (unhide HS2).size (unhide HNR3)); clear HNR3 HG3)
        | fail)
      go_roundw
      case rel => exact ⟨l2 ++ [(77, r)], x3, n3, i + 1, c3, rfl, by go_num, hlt, unhide HN3, hide (by have h1 := unhide HN3; have h2 := unhide HML; have h3 := unhide HMI; rw [List.length_append] at h1; have h4 : [(77, r)].length = 1 := rfl; omega), unhide HO3, unhide HS3, unhide HNR4⟩
      case measure => simp [intOf]; omega
    · obtain rfl : i = 70 := by omega
      go_wp2_with fail
      go_ret
      exact ⟨xo, m, cc, rfl, unhide HMI, unhide HS⟩
end Go.Proofs.Ytajflgonhomkfaa
