/- The page: bytes that are written over; both Encodes at every page. -/
import Derived.Test.YtkmcjjlkammlaaaDoorPt
import Derived.ArgAppend
namespace Go.Proofs.YtkmcjjlkammlaaaDoor
open Go.RowKit

theorem heapCell_same {w : World} {g : Nat} {cs : Array Value} {t : TypeId} {fr : Nat × Nat} (h : w.heap[g]? = some (.cells cs t fr)) (k : Nat) (v : Value) : (w.setCell ⟨g, k, none⟩ v).heap[g]? = some (.cells (cs.setIfInBounds k v) t fr) := by
  simp [World.setCell, Array.getElem?_modify, h]
theorem info_parts {t : TypeId} {z : Value} {s b : Nat} (h : (Tryd.prog.info? t).map (fun i => (i.zero, i.size, i.bytes)) = some (some z, s, b)) : ∃ i, Tryd.prog.info? t = some i ∧ i.zero = some z ∧ i.size = s ∧ i.bytes = b := by
  cases hq : Tryd.prog.info? t with
  | none => simp [hq] at h
  | some i => simp [hq] at h; exact ⟨i, rfl, h.1, h.2.1, h.2.2⟩
theorem grown_set {w w' : World} {g : Nat} (h : w.grownBy w' (some g)) (k : Nat) (v : Value) : w.grownBy (w'.setCell ⟨g, k, none⟩ v) (some g) :=
  ⟨h.os, h.tape, h.output, by simpa [World.setCell] using h.size, fun q hq hn => (Deep.blk_setCell_other w' ⟨g, k, none⟩ v q (fun e => hn (by rw [e]))).trans (h.block q hq hn)⟩
theorem grown_refl (w : World) (r : Option Nat) : w.grownBy w r := ⟨rfl, rfl, rfl, Nat.le_refl _, fun _ _ _ => rfl⟩
theorem grown_trans {a b c : World} {r r' : Option Nat} (h : a.grownBy b r) (k : b.grownBy c r') (hr : ∀ q, r' = some q → r = some q ∨ a.heap.size ≤ q) : a.grownBy c r :=
  ⟨k.os.trans h.os, k.tape.trans h.tape, k.output.trans h.output, Nat.le_trans h.size k.size, fun q hq hn => (k.block q (Nat.lt_of_lt_of_le hq h.size) (fun e => by
    rcases hr q e.symm with e' | e'
    · exact hn e'.symm
    · omega)).trans (h.block q hq hn)⟩
theorem owns_base {u : World} {b b' : Nat} {e : TypeId} {size n : Nat} {v : Value} {xs : List Value} (h : u.ownsRow b e size v n xs) (hb : b' ≤ b) : u.ownsRow b' e size v n xs := by
  refine ⟨h.1, ?_⟩
  rcases h.2 with h2 | ⟨g, cap, cur, h3, h4, h5⟩
  · exact .inl h2
  · exact .inr ⟨g, cap, cur, h3, Nat.le_trans hb h4, h5⟩
/-- bytes in some block, written over, then more behind them in new memory -/
def Sp (w wr : World) (r : Option Nat) (y : Value) (n : Nat) : Prop :=
  (∃ xs, wr.ownsRow w.heap.size 5 1 y n xs) ∧ w.grownBy wr r
set_option maxRecDepth 100000 in
set_option maxHeartbeats 1000000 in
theorem lSpoil (g : Nat) (w : World) (cur : Array Value) (hc : w.heap[g]? = some (.cells cur 52 (0, 0))) (hcs : cur.size = 1024) (hx : ∀ j, j < 1024 → ∃ x : Int, cur[j]? = some (.int .u8 x)) :
    Calls Tryd.prog 11 #[.slice (some ⟨g, 0, none⟩) 1024 1024] w fun e w' => e = .returned (.tuple #[]) ∧ w.grownBy w' (some g) := by
  obtain ⟨i0, hi, hz0, hz1, hz2⟩ := info_parts info5
  go_enter Tryd.func11, Tryd.ntmps11
  go_wp2
  go_loopw [2] (fun i wr => ∃ k : Nat, k ≤ 1024 ∧ i = .int .i64 k ∧ Hid (∃ cur', wr.heap[g]? = some (.cells cur' 52 (0, 0)) ∧ cur'.size = 1024 ∧ (∀ j, j < 1024 → ∃ x : Int, cur'[j]? = some (.int .u8 x)) ∧ w.grownBy wr (some g))) (fun i _ => 1024 - (intOf i).toNat)
  case atStart => exact ⟨0, Nat.zero_le _, rfl, hide ⟨cur, hc, hcs, hx, grown_refl _ _⟩⟩
  case round =>
    obtain ⟨k, hk, rfl, HI⟩ := hrel
    clear hc hcs hx
    obtain ⟨cur', h1, h2, h3, h4⟩ := unhide HI
    by_cases hlt : k < 1024
    · obtain ⟨x, hx⟩ := h3 k hlt
      have hc : wr.cell? ⟨g, k, none⟩ = some (.int .u8 x) := by simp [World.cell?, h1, hx]
      have hf : wr.frozen? ⟨g, k, none⟩ = false := by simp [World.frozen?, h1]
      obtain ⟨y, hy⟩ : ∃ y, y = bits .xor .u8 x 85 := ⟨_, rfl⟩
      have hy' := hy.symm
      have hki : (k : Int) < 1024 := by omega
      have HN : Hid (∃ cur2, (wr.setCell ⟨g, k, none⟩ (.int .u8 y)).heap[g]? = some (.cells cur2 52 (0, 0)) ∧ cur2.size = 1024 ∧ (∀ j, j < 1024 → ∃ x : Int, cur2[j]? = some (.int .u8 x)) ∧ w.grownBy (wr.setCell ⟨g, k, none⟩ (.int .u8 y)) (some g)) := by
        refine ⟨cur'.setIfInBounds k (.int .u8 y), heapCell_same h1 _ _, by simpa using h2, fun j hj => ?_, grown_set h4 _ _⟩
        rw [Array.getElem?_setIfInBounds]
        by_cases hjk : k = j
        · subst hjk; rw [if_pos rfl, if_pos (by omega)]; exact ⟨y, rfl⟩
        · rw [if_neg hjk]; exact h3 j hj
      clear h1 h2 h3 h4 hx hy HI
      go_wp2
      go_roundw
      case rel => exact ⟨k + 1, by omega, by go_num, hide (unhide HN)⟩
      case measure => simp [intOf]; omega
    · have hki : ¬ (k : Int) < 1024 := by omega
      clear h1 h2 h3 h4
      go_wp2
      go_loopw [0, 3] (fun y i wr => ∃ (m : Nat) (ao : Option Addr) (cp : Nat), m ≤ 66 ∧ i = .int .i64 m ∧ y = .slice ao (1024 + m) cp ∧ Hid ((m = 0 ∧ ao = some ⟨g, 0, none⟩ ∧ cp = 1024 ∧ ∃ cur', wr.heap[g]? = some (.cells cur' 52 (0, 0)) ∧ cur'.size = 1024 ∧ w.grownBy wr (some g)) ∨ Sp w wr (some g) (.slice ao (1024 + m) cp) (1024 + m))) (fun _ i _ => 66 - (intOf i).toNat)
      case atStart =>
        obtain ⟨cur', h1, h2, h3, h4⟩ := unhide HI
        exact ⟨0, _, _, Nat.zero_le _, rfl, rfl, hide (.inl ⟨rfl, rfl, rfl, cur', h1, h2, h4⟩)⟩
      case round =>
        clear HI
        obtain ⟨m, ao, cp, hmm, rfl, rfl, HI⟩ := hrel
        by_cases hlt2 : m < 66
        · have hmi : (m : Int) < 66 := by omega
          rcases unhide HI with ⟨rfl, rfl, rfl, cur', h1, h2, h3⟩ | ⟨⟨xs, hown⟩, hg⟩
          · have HR := hide (And.intro h1 (And.intro h2 h3))
            clear h1 h2 h3 HI
            go_wp2_with (at_builtin; refine wpList_append_grows _ rfl (.tmp 22) (.tmp 26) 29 rfl 5 i0 (.int .u8 0) 1 1 Tryd.underlying29 hi hz0 hz1 hz2 rfl (by decide) (some ⟨g, 0, none⟩) 1024 1024 cur'.toList rfl (fun h => by cases h) (by rw [Array.length_toList]; exact (unhide HR).2.1) ?c0 ⟨wr.heap.size, 0, none⟩ 1 1 [.int .u8 7] rfl rfl ?c1 ?c2 (by decide) (by decide) (by decide) ?_)
            case c0 =>
              intro b hb j u hj
              cases hb
              have hh := (unhide HR).1
              have hl : g < wr.heap.size := (Array.getElem?_eq_some_iff.1 hh).1
              rw [Addr.add_mid, Nat.zero_add, cellOf ((Below.heap_alloc wr _ g hl).trans hh), ← Array.getElem?_toList]
              exact hj
            case c1 => intro j u hj; match j, hj with | 0, hj => simp at hj; subst hj; simp [Addr.add]
            case c2 => intro u hu; simp at hu; subst hu; rfl
            intro v' w1 hown' hg'
            obtain ⟨ao', cap', rfl⟩ := owns_shape hown'
            have hr := unhide HR
            have HN : Hid (Sp w w1 (some g) (.slice ao' 1025 cap') 1025) := ⟨⟨_, owns_base hown' (by have := hr.2.2.size; omega)⟩, grown_trans hr.2.2 (grown_trans (World.grownBy_alloc wr _ none) hg' (fun q h => by cases h)) (fun q h => by cases h)⟩
            clear hown' hg' hr HR
            go_wp2
            go_roundw
            case rel => exact ⟨1, ao', cap', by decide, by go_num, rfl, hide (.inr (unhide HN))⟩
            case measure => simp [intOf]
          · have HO := hide hown
            have HG := hide hg
            have hsz := hg.size
            clear hown hg HI
            go_wp2_with (at_builtin; refine wpList_put _ rfl (.tmp 22) (.tmp 26) 29 rfl w.heap.size 5 i0 (.int .u8 0) 1 1 Tryd.underlying29 hi hz0 hz1 hz2 rfl (by decide) _ _ _ rfl ((unhide HO).alloc _) ⟨wr.heap.size, 0, none⟩ 1 1 [.int .u8 (7 + (m : Int))] rfl rfl ?c1 ?c2 ?c3 ?c4 ?c5 ?_)
            case c1 => intro j u hj; match j, hj with | 0, hj => simp at hj; subst hj; simp [Addr.add]
            case c2 => intro u hu; simp at hu; subst hu; rfl
            case c3 => unfold maxLen; omega
            case c4 => omega
            case c5 => simp; omega
            intro v' w1 hown' hg' hnr
            obtain ⟨ao', cap', rfl⟩ := owns_shape hown'
            have HN : Hid (Sp w w1 (some g) (.slice ao' (1024 + m + 1) cap') (1024 + m + 1)) := ⟨⟨_, hown'⟩, grown_trans (unhide HG) (grown_trans (r := (Value.slice ao (1024 + m) cp).ownBlock) (World.grownBy_alloc wr _ _) hg' (fun q h => .inl h)) (fun q h => .inr ((unhide HO).lt q h).1)⟩
            clear hown' hg' hnr
            go_wp2
            go_roundw
            case rel => exact ⟨m + 1, ao', cap', by omega, by go_num, rfl, hide (.inr (unhide HN))⟩
            case measure => simp [intOf]; omega
        · go_wp2
          go_returns
          refine ⟨rfl, ?_⟩
          rcases unhide HI with ⟨rfl, _⟩ | ⟨_, hg⟩
          · omega
          · exact hg
set_option maxRecDepth 100000 in
theorem lSpoilNil (w : World) : Calls Tryd.prog 11 #[.slice none 0 0] w fun e w' => e = .returned (.tuple #[]) ∧ w.grownBy w' none := by
  obtain ⟨i0, hi, hz0, hz1, hz2⟩ := info_parts info5
  go_enter Tryd.func11, Tryd.ntmps11
  go_wp2
  go_loopw [2] (fun i wr => i = .int .i64 0 ∧ wr = w) (fun _ _ => 0)
  case atStart => exact ⟨rfl, rfl⟩
  case round =>
    obtain ⟨rfl, hw⟩ := hrel
    obtain rfl := hw.symm
    clear hw
    go_wp2
    go_loopw [0, 3] (fun y i wr2 => ∃ (m : Nat) (ao : Option Addr) (cp : Nat), m ≤ 66 ∧ i = .int .i64 m ∧ y = .slice ao m cp ∧ Hid (Sp w wr2 none (.slice ao m cp) m)) (fun _ i _ => 66 - (intOf i).toNat)
    case atStart => exact ⟨0, none, 0, Nat.zero_le _, rfl, rfl, hide ⟨⟨_, World.ownsRow_nil _ _ _ _⟩, grown_refl _ _⟩⟩
    case round =>
      obtain ⟨m, ao, cp, hmm, rfl, rfl, HI⟩ := hrel
      by_cases hlt2 : m < 66
      · have hmi : (m : Int) < 66 := by omega
        obtain ⟨⟨xs, hown⟩, hg⟩ := unhide HI
        have HO := hide hown
        have HG := hide hg
        have hsz := hg.size
        clear hown hg HI
        go_wp2_with (at_builtin; refine wpList_put _ rfl (.tmp 22) (.tmp 26) 29 rfl w.heap.size 5 i0 (.int .u8 0) 1 1 Tryd.underlying29 hi hz0 hz1 hz2 rfl (by decide) _ _ _ rfl ((unhide HO).alloc _) ⟨wr.heap.size, 0, none⟩ 1 1 [.int .u8 (7 + (m : Int))] rfl rfl ?c1 ?c2 ?c3 ?c4 ?c5 ?_)
        case c1 => intro j u hj; match j, hj with | 0, hj => simp at hj; subst hj; simp [Addr.add]
        case c2 => intro u hu; simp at hu; subst hu; rfl
        case c3 => unfold maxLen; omega
        case c4 => omega
        case c5 => simp; omega
        intro v' w1 hown' hg' hnr
        obtain ⟨ao', cap', rfl⟩ := owns_shape hown'
        have HN : Hid (Sp w w1 none (.slice ao' (m + 1) cap') (m + 1)) := ⟨⟨_, hown'⟩, grown_trans (unhide HG) (grown_trans (r := (Value.slice ao m cp).ownBlock) (World.grownBy_alloc wr _ _) hg' (fun q h => .inl h)) (fun q h => .inr ((unhide HO).lt q h).1)⟩
        clear hown' hg' hnr
        go_wp2
        go_roundw
        case rel => exact ⟨m + 1, ao', cap', by omega, by go_num, rfl, hide (unhide HN)⟩
        case measure => simp [intOf]; omega
      · go_wp2
        go_returns
        exact ⟨rfl, (unhide HI).2⟩
/-- what Encode answers -/
def EncV (B : Nat) (u : World) (p : Pg) (v : Value) : Prop := (p.wrong ≠ 0 ∧ v = .slice none 0 0) ∨ (p.wrong = 0 ∧ ∃ G, v = .slice (some ⟨G, 0, none⟩) 1024 1024 ∧ B ≤ G ∧ u.heap[G]? = some (.cells (img p.enc) 52 (0, 0)))
def Pg.encS (p : Pg) : ByteArray := if p.wrong = 0 then ⟨p.enc.toArray⟩ else ⟨#[]⟩
section
variable {B : Nat} {u u' w : World} {p : Pg} {v : Value}
theorem EncV.keep (h : EncV B u p v) (hk : ∀ k, v.ownBlock = some k → k < u.heap.size → u'.heap[k]? = u.heap[k]?) : EncV B u' p v := by
  rcases h with h | ⟨h0, G, rfl, h1, h2⟩
  · exact .inl h
  · exact .inr ⟨h0, G, rfl, h1, (hk G rfl (Array.getElem?_eq_some_iff.1 h2).1).trans h2⟩
theorem EncV.below (h : EncV B u p v) (hb : Below u.heap.size u u') : EncV B u' p v := h.keep fun k _ hk => hb.block k hk
theorem EncV.ge (h : EncV B u p v) {k : Nat} (hk : v.ownBlock = some k) : B ≤ k ∧ k < u.heap.size := by
  rcases h with ⟨_, rfl⟩ | ⟨h0, G, rfl, h1, h2⟩
  · cases hk
  · cases hk; exact ⟨h1, (Array.getElem?_eq_some_iff.1 h2).1⟩
theorem EncV.conv (h : EncV B u p v) : (convert 29 9 v).run Tryd.prog u = .ok (.string p.encS) u := by
  rcases h with ⟨h0, rfl⟩ | ⟨h0, G, rfl, h1, h2⟩
  · rw [Pg.encS, if_neg h0]; kernel_rfl
  · rw [Pg.encS, if_pos h0]
    have hl : p.enc.length = 1024 := p.bytes_len (Pg.may h0).2 _
    have := run_convert_bytes_back u 29 9 5 ⟨G, 0, none⟩ 1024 p.enc Tryd.underlying29 Tryd.underlying5 Tryd.underlying9 fun j hj => by
      have e : (⟨G, 0, none⟩ : Addr).add j = ⟨G, j, none⟩ := by cases j <;> simp [Addr.add]
      rw [e, cellOf h2, img_at _ j hj]
    rw [hl] at this
    exact this
theorem pEncAny (p : Pg) (hf : p.Fit) (w : World) (hT : Tab w) : Calls Tryd.prog 10 #[.agg p.cs] w fun e w' => ∃ v, e = .returned (.tuple #[v, .int .i64 p.wrong]) ∧ EncV w.heap.size w' p v ∧ Below w.heap.size w w' := by
  by_cases hp : p.wrong = 0
  · refine (pEncode p hf hp w hT).mono ?_
    rintro e w' ⟨G, rfl, h1, h2, h3⟩
    exact ⟨_, by rw [hp], .inr ⟨hp, G, rfl, h1, h2⟩, h3⟩
  · refine (pEncodeBad p hp w).mono ?_
    rintro e w' ⟨rfl, h3⟩
    exact ⟨_, rfl, .inl ⟨hp, rfl⟩, h3⟩
theorem mEncAny (p : Pg) (hf : p.Fit) (w : World) : Calls Tryd.prog 9 #[.agg p.cs] w fun e w' => e = .returned (.tuple #[.string p.encS, .int .i64 p.wrong]) ∧ Below w.heap.size w w' := by
  by_cases hp : p.wrong = 0
  · refine (mEncode p hf hp w).mono ?_
    rintro e w' ⟨rfl, h3⟩
    exact ⟨by rw [hp, Pg.encS, if_pos hp], h3⟩
  · refine (mEncodeBad p hp w).mono ?_
    rintro e w' ⟨rfl, h3⟩
    exact ⟨by rw [Pg.encS, if_neg hp], h3⟩
theorem spoilAny (h : EncV B u p v) : Calls Tryd.prog 11 #[v] u fun e w' => e = .returned (.tuple #[]) ∧ u.grownBy w' v.ownBlock := by
  rcases h with ⟨h0, rfl⟩ | ⟨h0, G, rfl, h1, h2⟩
  · exact lSpoilNil u
  · have hl : p.enc.length = 1024 := p.bytes_len (Pg.may h0).2 _
    exact lSpoil G u (img p.enc) h2 (by rw [img_size, hl]) fun j hj => ⟨_, img_at _ j (by rw [hl]; exact hj)⟩
end
end Go.Proofs.YtkmcjjlkammlaaaDoor
