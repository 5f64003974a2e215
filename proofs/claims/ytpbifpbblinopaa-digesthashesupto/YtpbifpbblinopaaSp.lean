/- Bytes that are written over. -/
import Derived.Test.YtpbifpbblinopaaFiD
namespace Go.Proofs.Ytpbifpbblinopaa
open Go.RowKit

/-- what is done to the block g, and to new ones, alone -/
structure U1 (w w' : World) (g : Nat) : Prop where
  os : w'.os = w.os
  tape : w'.tape = w.tape
  output : w'.output = w.output
  size : w.heap.size ≤ w'.heap.size
  block : ∀ k, k < w.heap.size → k ≠ g → w'.heap[k]? = w.heap[k]?
theorem U1.refl (w : World) (g : Nat) : U1 w w g := ⟨rfl, rfl, rfl, Nat.le_refl _, fun _ _ _ => rfl⟩
theorem U1.set {w w' : World} {g : Nat} (h : U1 w w' g) (k : Nat) (v : Value) : U1 w (w'.setCell ⟨g, k, none⟩ v) g :=
  ⟨h.os, h.tape, h.output, by simpa [World.setCell] using h.size, fun q hq hn => (Deep.blk_setCell_other w' ⟨g, k, none⟩ v q hn).trans (h.block q hq hn)⟩
/-- a row that is being written on -/
structure OwnU (w wr : World) (v : Value) (n g : Nat) : Prop where
  own : ∃ xs, wr.ownsRow 0 5 1 v n xs
  blk : v.ownBlock = some g ∨ ∃ k, v.ownBlock = some k ∧ w.heap.size ≤ k
  upd : U1 w wr g
theorem OwnU.grow {w wr w1 : World} {o : Obj} {v v' : Value} {n g : Nat} {xs : List Value} (h : OwnU w wr v n g) (ho : w1.ownsRow 0 5 1 v' (n + 1) xs) (hg : (wr.alloc o).grownBy w1 v.ownBlock) (hr : NewRow (wr.alloc o) v v') : OwnU w w1 v' (n + 1) g := by
  obtain ⟨g1, g2, g3, g4, g5⟩ := hg
  have hs := h.upd.size
  refine ⟨⟨_, ho⟩, ?_, ⟨g1.trans h.upd.os, g2.trans h.upd.tape, g3.trans h.upd.output, by simp at g4; omega, fun k hk hn => ?_⟩⟩
  · rcases hr with e | ⟨k, e, hk⟩
    · rw [e]; exact h.blk
    · exact .inr ⟨k, e, by simp at hk; omega⟩
  · rw [g5 k (by simp; omega) ?_, Below.heap_alloc wr o k (by omega), h.upd.block k hk hn]
    intro e
    rcases h.blk with e' | ⟨q, e', hq⟩
    · rw [e'] at e; cases e; exact hn rfl
    · rw [e'] at e; cases e; omega
set_option maxRecDepth 100000 in
set_option maxHeartbeats 1000000 in
theorem lSpoil (g n cap : Nat) (w : World) (cur : Array Value) (hc : w.heap[g]? = some (.cells cur 5 (0, 0))) (hcs : cur.size = cap) (hn : n ≤ cap) (hm : cap ≤ maxLen) (hn2 : n ≤ 1000000) (hx : ∀ j, j < n → ∃ x : Int, cur[j]? = some (.int .u8 x)) :
    Calls Try.prog 20 #[.slice (some ⟨g, 0, none⟩) n cap] w fun e w' => e = .returned (.tuple #[]) ∧ U1 w w' g := by
  obtain ⟨i0, hi, hz0, hz1, hz2⟩ := info_parts infoU8
  go_enter Try.func20, Try.ntmps20
  go_wp2
  go_loopw [2] (fun i wr => ∃ k : Nat, k ≤ n ∧ i = .int .i64 k ∧ Hid (∃ cur', wr.heap[g]? = some (.cells cur' 5 (0, 0)) ∧ cur'.size = cap ∧ (∀ j, j < n → ∃ x : Int, cur'[j]? = some (.int .u8 x)) ∧ U1 w wr g)) (fun i _ => n - (intOf i).toNat)
  case atStart => exact ⟨0, Nat.zero_le _, rfl, hide ⟨cur, hc, hcs, hx, U1.refl _ _⟩⟩
  case round =>
    obtain ⟨k, hk, rfl, HI⟩ := hrel
    clear hc hcs hx
    obtain ⟨cur', h1, h2, h3, h4⟩ := unhide HI
    by_cases hlt : k < n
    · obtain ⟨x, hx⟩ := h3 k hlt
      have hc : wr.cell? ⟨g, k, none⟩ = some (.int .u8 x) := by simp [World.cell?, h1, hx]
      have hf : wr.frozen? ⟨g, k, none⟩ = false := by simp [World.frozen?, h1]
      obtain ⟨y, hy⟩ : ∃ y, y = bits .xor .u8 x 85 := ⟨_, rfl⟩
      have hy' := hy.symm
      have hki : (k : Int) < (n : Int) := by omega
      have HN : Hid (∃ cur2, (wr.setCell ⟨g, k, none⟩ (.int .u8 y)).heap[g]? = some (.cells cur2 5 (0, 0)) ∧ cur2.size = cap ∧ (∀ j, j < n → ∃ x : Int, cur2[j]? = some (.int .u8 x)) ∧ U1 w (wr.setCell ⟨g, k, none⟩ (.int .u8 y)) g) := by
        refine ⟨cur'.setIfInBounds k (.int .u8 y), heapCell_same h1 _ _, by simpa using h2, fun j hj => ?_, h4.set _ _⟩
        rw [Array.getElem?_setIfInBounds]
        by_cases hjk : k = j
        · subst hjk; rw [if_pos rfl, if_pos (by omega)]; exact ⟨y, rfl⟩
        · rw [if_neg hjk]; exact h3 j hj
      clear h1 h2 h3 h4 hx hy HI
      go_wp2
      go_roundw
      case rel => exact ⟨k + 1, by omega, by go_num, hide (unhide HN)⟩
      case measure => simp [intOf]; omega
    · have hkk : k = n := by omega
      subst hkk
      have H0 : Hid (OwnU w wr (.slice (some ⟨g, 0, none⟩) k cap) k g) := ⟨⟨_, by simp; omega, .inr ⟨g, cap, cur', rfl, Nat.zero_le _, h1, hn, hm, by omega, rfl⟩⟩, .inl rfl, h4⟩
      clear h1 h2 h3 h4 HI
      go_wp2
      go_loopw [0, 3] (fun y i wr => ∃ (m : Nat) (ao : Option Addr) (cp : Nat), m ≤ 66 ∧ i = .int .i64 m ∧ y = .slice ao (k + m) cp ∧ Hid (OwnU w wr (.slice ao (k + m) cp) (k + m) g)) (fun _ i _ => 66 - (intOf i).toNat)
      case atStart => exact ⟨0, _, _, Nat.zero_le _, rfl, rfl, H0⟩
      case round =>
        clear H0
        obtain ⟨m, ao, cp, hmm, rfl, rfl, HI⟩ := hrel
        by_cases hlt2 : m < 66
        · have hmi : (m : Int) < 66 := by omega
          obtain ⟨xs, hown⟩ := (unhide HI).own
          have HO := hide hown
          clear hown
          go_wp2_with (at_builtin; refine wpList_put _ rfl (.tmp 22) (.tmp 26) 24 rfl 0 5 i0 (.int .u8 0) 1 1 Try.underlying24 hi hz0 hz1 hz2 rfl (by decide) _ _ _ rfl ((unhide HO).alloc _) ⟨wr.heap.size, 0, none⟩ 1 1 [.int .u8 (7 + (m : Int))] rfl rfl ?c1 ?c2 ?c3 ?c4 ?c5 ?_)
          case c1 => intro j u hj; match j, hj with | 0, hj => simp at hj; subst hj; simp [Addr.add]
          case c2 => intro u hu; simp at hu; subst hu; rfl
          case c3 => unfold maxLen; omega
          case c4 => omega
          case c5 => omega
          intro v' w1 hown' hg' hnr
          have HN := hide ((unhide HI).grow hown' hg' hnr)
          obtain ⟨ao', cap', rfl⟩ := owns_shape hown'
          clear hown' hg' hnr
          go_wp2
          go_roundw
          case rel => exact ⟨m + 1, ao', cap', by omega, by go_num, rfl, hide (unhide HN)⟩
          case measure => simp [intOf]; omega
        · go_wp2
          go_returns
          exact ⟨rfl, (unhide HI).upd⟩
end Go.Proofs.Ytpbifpbblinopaa
