/- Nodes: the body, by the program. -/
import Derived.Test.YtppmpomfihalfaaNg
import Derived.Test.YtppmpomfihalfaaNw
namespace Go.Proofs.Ytppmpomfihalfaa
open Go.RowKit

def textB (s : ByteArray) : List UInt8 := W.uintB 9 s.size ++ s.data.toList
def cellB (c : Cl) : List UInt8 := textB c.key ++ textB c.val
def cellsB (l : List Cl) : List UInt8 := l.flatMap cellB
def keyB (k : ByteArray) (g : Nat) : List UInt8 := textB k ++ W.fixB g 4
def keysB (ks : List ByteArray) (gs : List Nat) : List UInt8 := (List.zipWith keyB ks gs).flatten
def Nd.body (n : Nd) : List UInt8 := if n.leaf then [1] ++ W.fixB n.cells.length 2 ++ cellsB n.cells else [2] ++ W.fixB n.keys.length 2 ++ W.fixB (n.kids.getD 0 0) 4 ++ keysB n.keys n.kids.tail
theorem uintB_one {n : Nat} (h : n < 128) : (W.uintB 9 n).length = 1 := by simp [W.uintB, h]
theorem uintB_two {n : Nat} (h : 128 ≤ n) (h2 : n < 16384) : (W.uintB 9 n).length = 2 := by
  rw [show W.uintB 9 n = UInt8.ofNat (n % 128 + 128) :: W.uintB 8 (n / 128) from by rw [W.uintB, if_neg (by omega)]]
  have : n / 128 < 128 := by omega
  simp [W.uintB, this]
theorem textB_len {s : ByteArray} (h : s.size ≤ 320) : (textB s).length = tsz s := by
  unfold textB tsz
  rw [List.length_append, show s.data.toList.length = s.size from Array.length_toList]
  split
  · rename_i h1; rw [uintB_one h1]
  · rename_i h1; rw [uintB_two (by omega) (by omega)]
theorem cellB_len {c : Cl} (h : c.Ok) : (cellB c).length = c.sz := by
  unfold cellB Cl.sz
  have := h.2
  rw [List.length_append, textB_len (by omega), textB_len (by omega)]
theorem cellsB_len {l : List Cl} (h : ∀ c ∈ l, c.Ok) : (cellsB l).length = (l.map Cl.sz).sum := by
  induction l with
  | nil => rfl
  | cons c l ih =>
    have e : cellsB (c :: l) = cellB c ++ cellsB l := rfl
    rw [e, List.length_append, List.map_cons, List.sum_cons, cellB_len (h c (List.mem_cons_self ..)), ih (fun x hx => h x (List.mem_cons_of_mem _ hx))]
theorem keysB_len : ∀ (ks : List ByteArray) (gs : List Nat), (∀ k ∈ ks, keyOk k) → ks.length ≤ gs.length → (keysB ks gs).length = (ks.map ksz).sum
  | [], _, _, _ => rfl
  | k :: ks, [], _, h => by simp at h
  | k :: ks, g :: gs, h, hl => by
    have e : keysB (k :: ks) (g :: gs) = keyB k g ++ keysB ks gs := rfl
    rw [e, List.length_append, List.map_cons, List.sum_cons, keysB_len ks gs (fun x hx => h x (List.mem_cons_of_mem _ hx)) (by simpa using hl)]
    congr 1
    unfold keyB ksz
    rw [List.length_append, textB_len (h k (List.mem_cons_self ..)).2, W.fixB_length]
theorem Nd.body_len {n : Nd} (hk : n.Kind) (hs : n.Small) : n.body.length = n.size := by
  unfold Nd.body Nd.size Nd.szs
  cases hl : n.leaf
  · unfold Nd.Kind at hk
    rw [hl] at hk
    simp only [Bool.false_eq_true, if_false] at hk ⊢
    have hk2 := keysB_len n.keys n.kids.tail hs.2 (by rw [List.length_tail]; omega)
    simp only [List.length_append, W.fixB_length, List.length_singleton, hk2]
  · simp only [if_true]
    simp only [List.length_append, W.fixB_length, List.length_singleton, cellsB_len hs.1]
/-- a writer, a box beside it, and what lies below -/
structure Wn (u w : World) (B A R X : Nat) (o : Obj) (bs : List UInt8) : Prop where
  wr : W.Wr w A R bs
  lowA : B ≤ A
  lowR : B ≤ R
  bel : Below B u w
  box : w.heap[X]? = some o
  neA : X ≠ A
  neR : X ≠ R
  hB : B ≤ w.heap.size
theorem Wn.put {u w w' : World} {B A R R' X : Nat} {o : Obj} {bs bs' : List UInt8} (h : Wn u w B A R X o bs) (hp : W.Put w w' A R R' bs') : Wn u w' B A R' X o bs' := by
  have hX : X < w.heap.size := (Array.getElem?_eq_some_iff.1 h.box).1
  refine ⟨hp.1, h.lowA, ?_, h.bel.trans (hp.2.2.below h.hB h.lowA h.lowR), (hp.2.2.block X hX h.neA h.neR).trans h.box, h.neA, ?_, Nat.le_trans h.hB hp.2.2.size⟩
  · rcases hp.2.1 with e | e
    · rw [e]; exact h.lowR
    · exact Nat.le_trans h.hB e
  · rcases hp.2.1 with e | e
    · rw [e]; exact h.neR
    · omega
/-- something new is laid beside it -/
theorem Wn.new {u w w' : World} {B A R X : Nat} {o : Obj} {bs : List UInt8} (h : Wn u w B A R X o bs) (hb : Below w.heap.size w w') : Wn u w' B A R X o bs := by
  have hX : X < w.heap.size := (Array.getElem?_eq_some_iff.1 h.box).1
  exact ⟨h.wr.same hb.size (hb.block A h.wr.1) (hb.block R h.wr.2.1), h.lowA, h.lowR, h.bel.trans (hb.mono h.hB), (hb.block X hX).trans h.box, h.neA, h.neR, Nat.le_trans h.hB hb.size⟩
/-- another box beside it -/
theorem Wn.box2 {u w : World} {B A R X X' : Nat} {o o' : Obj} {bs : List UInt8} (h : Wn u w B A R X o bs) (hb : w.heap[X']? = some o') (h1 : X' ≠ A) (h2 : X' ≠ R) : Wn u w B A R X' o' bs := ⟨h.wr, h.lowA, h.lowR, h.bel, hb, h1, h2, h.hB⟩
theorem cellsB_take {l : List Cl} {k : Nat} (hk : k < l.length) : cellsB (l.take (k + 1)) = cellsB (l.take k) ++ cellB l[k] := by
  unfold cellsB
  rw [List.take_add_one, List.getElem?_eq_getElem hk, List.flatMap_append]
  simp
theorem cellsB_le {l : List Cl} (h : ∀ c ∈ l, c.Ok) (k : Nat) : (cellsB (l.take k)).length ≤ 644 * k := by
  rw [cellsB_len (fun c hc => h c (List.mem_of_mem_take hc))]
  have h1 := sum_le_mul ((l.take k).map Cl.sz) 644 (fun x hx => by
    obtain ⟨c, hc, rfl⟩ := List.mem_map.1 hx
    have := h c (List.mem_of_mem_take hc)
    have h1 := tsz_le (s := c.key) (by have := this.2; omega)
    have h2 := tsz_le (s := c.val) (by have := this.2; omega)
    unfold Cl.sz; omega)
  rw [List.length_map, List.length_take] at h1
  have := Nat.mul_le_mul_left 644 (Nat.min_le_left k l.length)
  omega
set_option maxRecDepth 100000 in
set_option maxHeartbeats 4000000 in
theorem nPutLeaf (n : Nd) (a : Nv) (u w : World) (h : NdAt u n a) (hs : n.Small) (hc : n.cells.length ≤ 1992) (A R X : Nat) (o0 : Obj) (hw : Wn u w u.heap.size A R X o0 []) :
    Calls Try.prog 67 #[.pointer (some ⟨A, 0, none⟩), a.v n] w fun e w' => e = .returned (.tuple #[]) ∧ ∃ R', Wn u w' u.heap.size A R' X o0 ([1] ++ W.fixB n.cells.length 2 ++ cellsB n.cells) := by
  obtain ⟨B, hB⟩ : ∃ B, B = u.heap.size := ⟨_, rfl⟩
  have HB := hide hB
  rw [← hB] at hw ⊢
  obtain ⟨N, hN⟩ : ∃ N, N = w.heap.size := ⟨_, rfl⟩
  have HN := hide hN
  have HW := hide hw
  have HC : Hid (Lies u a.ca (flatC n.cells)) := h.cells
  have HS := hide hs.1
  obtain ⟨ca, cc, ka, kc, ga, gc⟩ := a
  obtain ⟨lf, cs, ks, gs⟩ := n
  show Calls Try.prog 67 #[.pointer (some ⟨A, 0, none⟩), .agg #[.bool lf, .slice ca cs.length cc, .slice ka ks.length kc, .slice ga gs.length gc]] w _
  have HC : Hid (Lies u ca (flatC cs)) := unhide HC
  have HS : Hid (∀ c ∈ cs, c.Ok) := unhide HS
  show Calls Try.prog 67 _ w fun e w' => e = .returned (.tuple #[]) ∧ ∃ R', Wn u w' B A R' X o0 ([1] ++ W.fixB cs.length 2 ++ cellsB cs)
  have hc : cs.length ≤ 1992 := hc
  obtain ⟨cn, hcn⟩ : ∃ cn, cn = cs.length := ⟨_, rfl⟩
  have HCN := hide hcn
  rw [← hcn] at hc ⊢
  have hci : (cn : Int) ≤ 1992 := by omega
  generalize ks.length = kn
  generalize gs.length = gn
  clear h hs hw hB hN hcn
  obtain ⟨F, hF⟩ : ∃ F, F = [1] ++ W.fixB cn 2 ++ cellsB cs := ⟨_, rfl⟩
  rw [← hF]
  have HF := hide hF
  clear hF
  have hcw : IntKind.u64.wrap (cn : Int) = (cn : Int) := by rw [IntKind.wrap_u64]; omega
  go_enter Try.func67, Try.ntmps67
  go_wp2_with (first
    | (with_reducible refine wpList_box_node (by rfl) (.tmp 1) (by rfl) (some 3) (by rfl) N (unhide HN) lf ca cn cc ka kn kc ga gn gc (by with_unfolding_all rfl) ?_; intro W1 HX1 HW1 HS1; simp only [Act.put, List.setIfInBounds_toArray, List.set_cons_zero, List.set_cons_succ])
    | fail)
  have HV1 : Hid (Wn u W1 B A R N (.cells #[.bool lf, .slice ca cn cc, .slice ka kn kc, .slice ga gn gc] 26 (0, 0)) [] ∧ Wn u W1 B A R X o0 []) := by
    have h1 := (unhide HW).new (by rw [← unhide HN]; exact unhide HW1)
    exact ⟨h1.box2 (unhide HX1) (by have := (unhide HW).wr.1; rw [← unhide HN] at this; omega) (by have := (unhide HW).wr.2.1; rw [← unhide HN] at this; omega), h1⟩
  clear HX1 HW1 HS1 HW
  refine (W.wByte A R [] 1 W1 (unhide HV1).1.wr (by decide) (by decide) (by decide)).mono ?_
  rintro e W2 ⟨rfl, R2, hp2⟩
  have HV2 := hide (And.intro ((unhide HV1).1.put hp2) ((unhide HV1).2.put hp2))
  clear hp2 HV1
  obtain ⟨y0, y1, y2, y3⟩ := box4 (unhide HV2).1.box
  go_wp2_with fail
  refine (W.wFixed A R2 _ cn 2 W2 (unhide HV2).1.wr (by decide) (by decide) (by show cn < 65536; omega) (by decide)).mono ?_
  rintro e W3 ⟨rfl, R3, hp3⟩
  have HV3 := hide (And.intro ((unhide HV2).1.put hp3) ((unhide HV2).2.put hp3))
  clear hp3 HV2 y0 y1 y2 y3
  obtain ⟨y0, y1, y2, y3⟩ := box4 (unhide HV3).1.box
  go_wp2_with fail
  go_loopw [17] (fun i wr => ∃ (k R : Nat), k ≤ cn ∧ i = .int .i64 k ∧ Hid (Wn u wr B A R N (.cells #[.bool lf, .slice ca cn cc, .slice ka kn kc, .slice ga gn gc] 26 (0, 0)) ([1] ++ W.fixB cn 2 ++ cellsB (cs.take k)) ∧ Wn u wr B A R X o0 ([1] ++ W.fixB cn 2 ++ cellsB (cs.take k)))) (fun i _ => cn - (intOf i).toNat)
  case atStart => exact ⟨0, R3, Nat.zero_le _, rfl, by rw [show [1] ++ W.fixB cn 2 ++ cellsB (cs.take 0) = [] ++ [UInt8.ofNat (Int.toNat 1)] ++ W.fixB cn (Int.toNat 2) from by simp [cellsB]]; exact unhide HV3⟩
  case round =>
    clear HV3 y0 y1 y2 y3
    obtain ⟨k, R4, hk, rfl, HI⟩ := hrel
    by_cases hlt : k < cn
    · have hki : (k : Int) < (cn : Int) := by omega
      have hkl : k < cs.length := by rw [← unhide HCN]; exact hlt
      have hbw : Below u.heap.size u wr := by rw [← unhide HB]; exact (unhide HI).1.bel
      obtain ⟨g, o, hao, hc, hv⟩ := ((unhide HC).below hbw).cl hkl
      subst hao
      have hix := ixCells g o cn cc k hlt
      obtain ⟨M, hM⟩ : ∃ M, M = wr.heap.size := ⟨_, rfl⟩
      have HMM := hide hM
      have hok := unhide HS _ (List.getElem_mem hkl)
      have HT := hide (cellsB_take hkl)
      have HL := hide (cellsB_le (unhide HS) k)
      clear hbw hM
      generalize hck : cs[k] = c at *
      clear hkl hck
      obtain ⟨q, p⟩ := c
      have hq : q.size + p.size ≤ 320 := hok.2
      clear hok
      have hc : wr.cell? ⟨g, o + k * 2, none⟩ = some (.string q) := hc
      have hv : wr.cell? ⟨g, o + k * 2 + 1, none⟩ = some (.string p) := hv
      generalize o + k * 2 = j2 at *
      obtain ⟨bs, hbs⟩ : ∃ bs, bs = [1] ++ W.fixB cn 2 ++ cellsB (cs.take k) := ⟨_, rfl⟩
      rw [← hbs] at HI
      have hbl : bs.length ≤ 3 + 644 * 1992 := by
        rw [hbs, List.length_append, List.length_append, W.fixB_length]
        have := unhide HL
        have : 644 * k ≤ 644 * 1992 := Nat.mul_le_mul_left 644 (by omega)
        simp only [List.length_singleton]
        omega
      have hbs2 : [1] ++ W.fixB cn 2 ++ cellsB (cs.take (k + 1)) = bs ++ (W.uintB 9 q.size ++ q.data.toList) ++ (W.uintB 9 p.size ++ p.data.toList) := by
        rw [unhide HT, hbs]
        simp only [cellB, textB, List.append_assoc]
      have HBS := hide hbs2
      clear hbs2
      clear hbs HT HL
      go_wp2_with (first
        | (with_reducible refine wpList_alloc_cell (by rfl) (by rfl) (some 5) (by rfl) M (unhide HMM) ?_; intro W4 HX4 HB4 HS4; simp only [Act.put, List.setIfInBounds_toArray, List.set_cons_zero, List.set_cons_succ])
        | (with_reducible refine wpList_store_cell (by rfl) (.tmp 5) (.tmp 20) (by rfl) M q p (by with_unfolding_all rfl) (by with_unfolding_all rfl) (unhide HX4) ?_; intro W5 HX5 HE5; simp only [Act.put]; obtain ⟨z0, z1⟩ := box2 (unhide HX5))
        | fail)
      have HV5 : Hid (Wn u W5 B A R4 N (.cells #[.bool lf, .slice (some ⟨g, o, none⟩) cn cc, .slice ka kn kc, .slice ga gn gc] 26 (0, 0)) bs ∧ Wn u W5 B A R4 X o0 bs ∧ Wn u W5 B A R4 M (.cells #[.string q, .string p] 66 (0, 0)) bs) := by
        have h6 : Below wr.heap.size wr W5 := by rw [unhide HE5, ← unhide HMM]; exact belowRow (unhide HB4) (Nat.le_refl _) _
        have h1 := (unhide HI).1.new h6
        have h2 := (unhide HI).2.new h6
        exact ⟨h1, h2, h1.box2 (unhide HX5) (by have := (unhide HI).1.wr.1; rw [← unhide HMM] at this; omega) (by have := (unhide HI).1.wr.2.1; rw [← unhide HMM] at this; omega)⟩
      clear HE5 HX4 HB4 HS4 HX5 HI
      refine (W.wText A R4 bs q W5 (unhide HV5).1.wr (by omega)).mono ?_
      rintro e W6 ⟨rfl, R6, hp6⟩
      have HV6 := hide (And.intro ((unhide HV5).1.put hp6) (And.intro ((unhide HV5).2.1.put hp6) ((unhide HV5).2.2.put hp6)))
      clear hp6 HV5 z0 z1
      obtain ⟨z0, z1⟩ := box2 (unhide HV6).2.2.box
      go_wp2_with fail
      refine (W.wText A R6 _ p W6 (unhide HV6).1.wr (by rw [List.length_append, List.length_append, show q.data.toList.length = q.size from Array.length_toList]; have := (W.uintB_length 9 q.size).2; omega)).mono ?_
      rintro e W7 ⟨rfl, R7, hp7⟩
      have HV7 := hide (And.intro ((unhide HV6).1.put hp7) ((unhide HV6).2.1.put hp7))
      clear hp7 HV6 z0 z1
      go_wp2
      go_roundw
      case rel => exact ⟨k + 1, R7, by omega, by go_num, by rw [unhide HBS]; exact unhide HV7⟩
      case measure => simp [intOf]; omega
    · obtain rfl : k = cn := by omega
      have hki : ¬ (k : Int) < (k : Int) := by omega
      have HE : Hid (Wn u wr B A R4 X o0 F) := by
        have := (unhide HI).2
        rw [unhide HF]
        rwa [List.take_of_length_le (by rw [unhide HCN]; exact Nat.le_refl _)] at this
      go_wp2
      go_returns
      exact ⟨rfl, R4, unhide HE⟩
end Go.Proofs.Ytppmpomfihalfaa
