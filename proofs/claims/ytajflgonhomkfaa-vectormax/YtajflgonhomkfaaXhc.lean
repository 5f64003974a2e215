/- Vectors: the law's spoil. -/
import Derived.Test.YtajflgonhomkfaaXgd
import Derived.Test.YtajflgonhomkfaaXl
namespace Go.Proofs.Ytajflgonhomkfaa
open Go.RowKit

/-- only the block of this list is changed, and new ones -/
structure Sp (u w : World) (ao : Option Addr) : Prop where
  os : w.os = u.os
  tape : w.tape = u.tape
  output : w.output = u.output
  size : u.heap.size ≤ w.heap.size
  block : ∀ k, k < u.heap.size → (∀ x, ao = some x → k ≠ x.block) → w.heap[k]? = u.heap[k]?
theorem U1.belw {u w w' : World} {g : Nat} (h : U1 u w g) (hb : Below w.heap.size w w') : U1 u w' g :=
  ⟨hb.os.trans h.os, hb.tape.trans h.tape, hb.output.trans h.output, Nat.le_trans h.size hb.size, fun k hk hg => (hb.block k (Nat.lt_of_lt_of_le hk h.size)).trans (h.block k hk hg)⟩
theorem U1.cells {u w : World} {g : Nat} (h : U1 u w g) (k : Nat) (x y : Value) : U1 u (w.setCells g k [x, y]) g := (h.set k x).set (k + 1) y
theorem U1.sp {u w : World} {g : Nat} (h : U1 u w g) : Sp u w (some ⟨g, 0, none⟩) := ⟨h.os, h.tape, h.output, h.size, fun k hk hx => h.block k hk (hx _ rfl)⟩
theorem Sp.own {u w : World} {ao bo : Option Addr} {B c : Nat} {l : List (Nat × Nat)} (h : Sp u w ao) (ho : OwnD u B l bo c) (hn : ∀ x, ao = some x → x.block < B) : OwnD w B l bo c :=
  own_keep ho fun g hg => h.block g (ho.lt g hg).2 (fun x hx => by have := hn x hx; have := (ho.lt g hg).1; omega)
theorem Sp.below {u w : World} {ao : Option Addr} {B : Nat} (h : Sp u w ao) (hB : B ≤ u.heap.size) (hx : ∀ x, ao = some x → B ≤ x.block) : Below B u w :=
  ⟨h.os, h.tape, h.output, h.size, fun k hk => h.block k (Nat.lt_of_lt_of_le hk hB) (fun x e => by have := hx x e; omega)⟩
set_option maxRecDepth 100000 in
set_option maxHeartbeats 4000000 in
theorem lSpoil (x : Nat) (hx : x ≤ 1000) (L : List (Nat × Nat)) (n : Nat) (hn : n ≤ L.length) (ao : Option Addr) (c B : Nat) (u : World) (hl : L.length ≤ 8796093022208) (h : OwnD u B L ao c) :
    Calls Try.prog 22 #[.slice ao n c, .int .u64 (x : Int)] u fun e u' => e = .returned (.tuple #[]) ∧ Sp u u' ao ∧ ∃ l2, l2.length = L.length ∧ OwnD u' B l2 ao c := by
  have HM := hide (lMark x hx)
  by_cases h0 : n = 0
  · subst h0
    have HP : Hid (∀ w : World, (∃ z, w = u.drewN z) → Sp u w ao ∧ ∃ l2, l2.length = L.length ∧ OwnD w B l2 ao c) := fun w ⟨z, hz⟩ => by
      subst hz; exact ⟨⟨rfl, rfl, rfl, Nat.le_refl _, fun _ _ _ => rfl⟩, L, rfl, h.below (belowDrewN (Below.refl _ _) z)⟩
    clear h hx hl hn
    go_enter Try.func22, Try.ntmps22
    go_wp2_with fail
    go_loopw [4] (fun s4 wr => s4 = .int .i64 0 ∧ Hid (∃ z, wr = u.drewN z)) (fun _ _ => 0)
    case atStart => exact ⟨rfl, 0, rfl⟩
    case round =>
      obtain ⟨rfl, HZ⟩ := hrel
      go_wp2_with fail
      go_returns
      exact ⟨rfl, unhide HP _ (unhide HZ)⟩
  · obtain ⟨g, rfl⟩ := h.pos (by omega)
    have H0 := hide h
    have HL := hide hn
    have hn2 : (n : Int) ≤ 8796093022208 := by omega
    clear h hx hl hn h0
    go_enter Try.func22, Try.ntmps22
    go_wp2_with fail
    go_loopw [4] (fun s4 wr => ∃ (i : Nat) (l2 : List (Nat × Nat)), i ≤ n ∧ s4 = .int .i64 (i : Int) ∧ Hid (l2.length = L.length) ∧ Hid (OwnD wr B l2 (some ⟨g, 0, none⟩) c) ∧ Hid (U1 u wr g)) (fun s4 _ => n - (intOf s4).toNat)
    case atStart => exact ⟨0, L, Nat.zero_le _, rfl, rfl, unhide H0, U1.refl _ _⟩
    case round =>
      clear H0
      obtain ⟨i, l2, hin, rfl, HLL, HO, HU⟩ := hrel
      have hini : (i : Int) ≤ 8796093022208 := by omega
      by_cases hi : i < n
      · have hii : (i : Int) < (n : Int) := by omega
        have HTHW : Hid (∀ w : World, OwnD w B l2 (some ⟨g, 0, none⟩) c → w.there g (i * 2) 2) := fun w ho => ho.there (by rw [unhide HLL]; exact Nat.lt_of_lt_of_le hi (unhide HL))
        generalize 1125899906842624 + x = r at *
        go_wp2_with (first
          | (go_at_call 49; refine (unhide HM _).mono ?_; rintro e w1 ⟨rfl, hb1⟩; have HO1 := hide ((unhide HO).below hb1); have HU1 := hide ((unhide HU).belw hb1); have HTH := hide (unhide HTHW _ (unhide HO1)); clear hb1)
          | (refine wpList_store_mid (by rfl) 29 (.tmp 15) (.tmp 14) (by rfl) g (i * 2) #[.int .u32 77, .int .u64 (r : Int)] (by with_unfolding_all rfl) (by with_unfolding_all rfl) (unhide HTH) dotInfo (dot_one _ _) ?_; simp only [Act.put])
          | fail)
        go_roundw
        case rel => exact ⟨i + 1, l2.set i (77, r), hi, by go_num, hide (by rw [List.length_set]; exact unhide HLL), (unhide HO1).set i 77 r, (unhide HU1).cells _ _ _⟩
        case measure => simp [intOf]; omega
      · obtain rfl : i = n := by omega
        have hii : ¬ (i : Int) < (i : Int) := by omega
        go_wp2_with fail
        go_returns
        exact ⟨rfl, (unhide HU).sp, l2, unhide HLL, unhide HO⟩
end Go.Proofs.Ytajflgonhomkfaa
