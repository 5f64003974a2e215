/- JournalWhole: twin, fit. -/
import Derived.Test.YtfdfbjijomepgaaDoorJy
namespace Go.Proofs.YtfdfbjijomepgaaDoor
open Go.RowKit

theorem flatP_append (l m : List Pg) : flatP (l ++ m) = flatP l ++ flatP m := by simp [flatP]
theorem flatP_one (p : Pg) : flatP [p] = p.cs.toList := by simp [flatP]
theorem flatP_oneCell (l : List Pg) : ∀ u ∈ flatP l, u.oneCell' = true := fun u hu => by
  obtain ⟨p, _, hp⟩ := List.mem_flatMap.1 hu
  simp only [Pg.cs, List.mem_cons, List.not_mem_nil, or_false] at hp
  rcases hp with rfl | rfl | rfl | rfl <;> rfl
/-- pages, cell by cell -/
theorem flatP_cells {u : World} {g o : Nat} {l : List Pg} (h : ∀ (j : Nat) (hj : j < l.length) (k : Nat), k < 4 → u.cell? ⟨g, o + j * 4 + k, none⟩ = (l[j].cs)[k]?) (j : Nat) (x : Value) (hx : (flatP l)[j]? = some x) : u.cell? ((⟨g, o, none⟩ : Addr).add j) = some x := by
  have hj : j < (flatP l).length := (List.getElem?_eq_some_iff.1 hx).1
  rw [flatP_len] at hj
  have e : j = j / 4 * 4 + j % 4 := by omega
  have h1 := h (j / 4) (by omega) (j % 4) (by omega)
  have h2 := flatP_at l (j / 4) (by omega) (j % 4) (by omega)
  rw [← e, hx] at h2
  rw [Addr.add_mid, show o + j = o + j / 4 * 4 + j % 4 by omega, h1, h2]
def pg99 : Pg := ⟨99, 12345, 0, ⟨#[]⟩⟩
/-- the second half of twin: the mark behind it, and cut off -/
theorem own_front {u : World} {base g c : Nat} {l : List Pg} (h : u.ownsRow base 70 4 (.slice (some ⟨g, 0, none⟩) (l.length + 1) c) (l.length + 1) (flatP (l ++ [pg99]))) : l.length + 1 ≤ c ∧ base ≤ g ∧ Pgs u (some ⟨g, 0, none⟩) l := by
  obtain ⟨g', c', he, hc, hg, _, hcs⟩ := own_pgs (l := l ++ [pg99]) (by rw [List.length_append]; exact h) (by simp)
  rw [List.length_append] at he hc
  obtain ⟨rfl, rfl⟩ : g = g' ∧ c = c' := by
    have : (⟨g, 0, none⟩ : Addr) = ⟨g', 0, none⟩ ∧ c = c' := by simpa using he
    exact ⟨congrArg Addr.block this.1, this.2⟩
  refine ⟨hc, hg, fun _ => ⟨g, 0, rfl, fun j hj k hk => ?_⟩⟩
  rw [Nat.zero_add, hcs j (by rw [List.length_append]; omega) k hk, List.getElem_append_left hj]
set_option maxRecDepth 100000 in
set_option maxHeartbeats 2000000 in
theorem lTwin (l : List Pg) (n : Nat) (hnn : l.length = n) (hn : n ≤ 1000) (base : Nat) (v : Value) (w : World) (hown : w.ownsRow base 70 4 v n (flatP l)) :
    Calls Tryd.prog 9 #[v] w fun e w' => ∃ g c, e = .returned (.slice (some ⟨g, 0, none⟩) n c) ∧ w.heap.size ≤ g ∧ Pgs w' (some ⟨g, 0, none⟩) l ∧ Below w.heap.size w w' := by
  obtain ⟨N, hN⟩ : ∃ N, N = w.heap.size := ⟨_, rfl⟩
  have HN := hide hN
  obtain ⟨i0, hi, hz0, hz1, hz2⟩ := info_parts4
  have hO := hown
  subst hnn
  rcases hO.2 with ⟨rfl, hn0⟩ | ⟨g0, c0, cur, rfl, hb0, hblk, _⟩
  · have hl0 : l = [] := List.length_eq_zero_iff.1 hn0
    rw [← hN, hn0]
    have HL : Hid (([] : List Value) = flatP l) := by rw [hl0]; rfl
    have HSZ : Hid (N ≤ w.heap.size) := Nat.le_of_eq hN
    have HNN : Hid (0 = l.length) := hn0.symm
    have hf0 : Hid (Below N w (w.alloc (.cells #[.int .u8 99, .int .u32 12345, .int .u64 0, .string ⟨#[]⟩] 70))) := (Below.refl N w).alloc (Nat.le_of_eq hN) _
    clear hown hO hn0 hl0 hN hn
    go_enter Tryd.func9, Tryd.ntmps9
    go_wp2_with (first
      | (at_builtin; refine wpList_append_own_none (by rfl) (.tmp 4) (.tmp 5) 25 rfl N 70 i0 4 apUnd hi (.slice none 0 0) 0 [] rfl (World.ownsRow_nil _ _ _ _) rfl ?_; simp only [Act.put, List.setIfInBounds_toArray, List.set_cons_zero, List.set_cons_succ])
      | (at_builtin; refine wpList_put _ rfl (.tmp 7) (.tmp 9) 25 rfl N 70 i0 (.agg #[.int .u8 0, .int .u32 0, .int .u64 0, .string ⟨#[]⟩]) 4 32 apUnd hi hz0 hz1 hz2 rfl (by decide) (.slice none 0 0) 0 [] rfl ((World.ownsRow_nil w N _ _).alloc _) ⟨w.heap.size, 0, none⟩ 1 1 [.int .u8 99, .int .u32 12345, .int .u64 0, .string ⟨#[]⟩] rfl rfl (four_new _ _ _ _ _ _) (by simp [Value.oneCell']) (by simp only [maxLen]; omega) (by omega) (by simp; have := unhide HSZ; omega) ?_; intro v2 w2 hown2 hgrow2 hnew2; obtain ⟨g2, c2, rfl⟩ := own_succ4 hown2; clear hnew2; have hfr := own_front (l := l) (g := g2) (c := c2) (base := N) (u := w2) (by rw [flatP_append, flatP_one, ← (unhide HL), ← unhide HNN]; exact hown2); rw [← unhide HNN, Nat.zero_add] at hfr; have hcut := cutTo g2 1 c2 0 (by omega) (by omega); have HFR := hide hfr; clear hfr)
      | fail)
    have hB2 : Hid (Below N w w2) := (unhide hf0).grown hgrow2 (by simp; have := unhide HSZ; omega) (fun q e => by cases e)
    clear hown2 hgrow2 hf0
    go_ret
    exact ⟨g2, c2, rfl, (unhide HFR).2.1, (unhide HFR).2.2, unhide hB2⟩
  · have hcs : ∀ (j : Nat) (x : Value), (flatP l)[j]? = some x → w.cell? ((⟨g0, 0, none⟩ : Addr).add j) = some x := by
      intro j x hx
      have hj : j < (flatP l).length := (List.getElem?_eq_some_iff.1 hx).1
      rw [flatP_len] at hj
      obtain ⟨g', c', he, _, _, _, hcs⟩ := own_pgs hown (by omega)
      obtain rfl : g0 = g' := by
        have : (⟨g0, 0, none⟩ : Addr) = ⟨g', 0, none⟩ ∧ c0 = c' := by simpa using he
        exact congrArg Addr.block this.1
      exact flatP_cells (o := 0) (fun j hj k hk => by rw [Nat.zero_add]; exact hcs j hj k hk) j x hx
    rw [← hN]
    have HCS := hide hcs
    obtain ⟨L, hL⟩ : ∃ L, L = flatP l := ⟨_, rfl⟩
    have HL : Hid (L = flatP l ∧ L.length = l.length * 4 ∧ ∀ u ∈ L, u.oneCell' = true) := ⟨hL, by rw [hL]; exact flatP_len l, by rw [hL]; exact flatP_oneCell l⟩
    rw [← hL] at HCS
    obtain ⟨n, hnn⟩ : ∃ n, n = l.length := ⟨_, rfl⟩
    rw [← hnn]
    have HNN := hide hnn
    have hni : (n : Int) ≤ 1000 := by omega
    clear hown hO hb0 hblk hcs hL hN hn hnn
    go_enter Tryd.func9, Tryd.ntmps9
    go_wp2_with (first
      | (at_builtin; refine wpList_put _ rfl (.tmp 4) (.tmp 5) 25 rfl N 70 i0 (.agg #[.int .u8 0, .int .u32 0, .int .u64 0, .string ⟨#[]⟩]) 4 32 apUnd hi hz0 hz1 hz2 rfl (by decide) (.slice none 0 0) 0 [] rfl (World.ownsRow_nil _ _ _ _) ⟨g0, 0, none⟩ n c0 L rfl (by rw [(unhide HL).2.1, unhide HNN]) (unhide HCS) (unhide HL).2.2 (by simp only [maxLen]; omega) (by omega) (by rw [unhide HN]; exact Nat.le_refl _) ?_; intro v1 w1 hown1 hgrow1 hnew1; rw [Nat.zero_add, List.nil_append] at hown1; have HB1 : Hid (Below N w w1) := (Below.refl N w).grown hgrow1 (by rw [unhide HN]; exact Nat.le_refl _) (fun q e => by cases e); have HSZ1 : Hid (N ≤ w1.heap.size) := (by rw [unhide HN]; exact Nat.le_trans (by rw [← unhide HN]; exact Nat.le_refl _) (unhide HB1).size); clear hgrow1 hnew1)
      | (at_builtin; refine wpList_put _ rfl (.tmp 7) (.tmp 9) 25 rfl N 70 i0 (.agg #[.int .u8 0, .int .u32 0, .int .u64 0, .string ⟨#[]⟩]) 4 32 apUnd hi hz0 hz1 hz2 rfl (by decide) v1 n L rfl (hown1.alloc _) ⟨w1.heap.size, 0, none⟩ 1 1 [.int .u8 99, .int .u32 12345, .int .u64 0, .string ⟨#[]⟩] rfl rfl (four_new _ _ _ _ _ _) (by simp [Value.oneCell']) (by simp only [maxLen]; omega) (by omega) (by simp; have := unhide HSZ1; omega) ?_; intro v2 w2 hown2 hgrow2 hnew2; obtain ⟨g2, c2, rfl⟩ := own_succ4 hown2; clear hnew2; have hfr := own_front (l := l) (g := g2) (c := c2) (base := N) (u := w2) (by rw [flatP_append, flatP_one, ← (unhide HL).1, ← unhide HNN]; exact hown2); rw [← unhide HNN] at hfr; have hcut := cutTo g2 (n + 1) c2 n (by omega) (by omega); have HFR := hide hfr; clear hfr)
      | fail)
    have hB2 : Hid (Below N w w2) := ((unhide HB1).alloc (unhide HSZ1) _).grown hgrow2 (by simp; have := unhide HSZ1; omega) (fun q e => (own_lt hown1 e).1)
    clear hown1 hown2 hgrow2
    go_ret
    exact ⟨g2, c2, rfl, (unhide HFR).2.1, (unhide HFR).2.2, unhide hB2⟩
end Go.Proofs.YtfdfbjijomepgaaDoor
