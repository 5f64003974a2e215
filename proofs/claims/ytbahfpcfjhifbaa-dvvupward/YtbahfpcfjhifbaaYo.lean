/- States: their bytes. -/
import Derived.Test.YtbahfpcfjhifbaaYn
import Derived.Test.YtbahfpcfjhifbaaXv
import Derived.Test.YtbahfpcfjhifbaaYw
namespace Go.Proofs.Ytbahfpcfjhifbaa
open Go.RowKit Go.Lib
/-- a text's bytes -/
def textB (t : ByteArray) : List UInt8 := W.uintB 9 t.size ++ t.data.toList
/-- a sibling's bytes -/
def sibB (x : Sb) : List UInt8 := W.uintB 9 x.a ++ (W.uintB 9 x.c ++ ([if x.gone then 1 else 0] ++ textB x.val))
def sibsB (l : List Sb) : List UInt8 := l.flatMap sibB
/-- a state's bytes -/
def stB (s : St) : List UInt8 := vecB s.seen ++ (W.uintB 9 s.sibs.length ++ sibsB s.sibs)
theorem sibB_len {x : Sb} (h : x.may) : (sibB x).length ≤ 80 := by
  have h1 := (uintB_len 9 x.a).2
  have h2 := (uintB_len 9 x.c).2
  have h3 := (uintB_len 9 x.val.size).2
  have h4 : x.val.size ≤ 40 := by unfold Sb.may at h; split at h <;> omega
  have h5 : x.val.data.toList.length = x.val.size := W.size_toList _
  unfold sibB textB
  simp only [List.length_append, List.length_cons, List.length_nil]
  omega
theorem sibsB_take (l : List Sb) {k : Nat} (h : k < l.length) : sibsB (l.take (k + 1)) = sibsB (l.take k) ++ sibB l[k] := by
  unfold sibsB
  rw [List.take_succ_eq_append_getElem h, List.flatMap_append]
  simp
theorem sibsB_len {l : List Sb} (h : ∀ x ∈ l, x.may) : (sibsB l).length ≤ 80 * l.length := by
  induction l with
  | nil => simp [sibsB]
  | cons x l ih =>
    have h1 := sibB_len (h x (List.mem_cons_self ..))
    have h2 := ih fun y hy => h y (List.mem_cons_of_mem _ hy)
    unfold sibsB at h2 ⊢
    rw [List.flatMap_cons, List.length_append, List.length_cons]
    omega
/-- a writer with a block beside it -/
structure Wx (u w : World) (B a r : Nat) (bs : List UInt8) (M : Nat) (o : Obj) : Prop where
  wn : Wn u w B a r bs
  box : w.heap[M]? = some o
  na : M ≠ a
  nr : M ≠ r
theorem Wx.put {u w w' : World} {B a r r' M : Nat} {bs bs' : List UInt8} {o : Obj} (h : Wx u w B a r bs M o) (hp : W.Put w w' a r r' bs') : Wx u w' B a r' bs' M o :=
  ⟨h.wn.put hp, (hp.2.2.block M (Array.getElem?_eq_some_iff.1 h.box).1 h.na h.nr).trans h.box, h.na, by
    have hlt := (Array.getElem?_eq_some_iff.1 h.box).1
    rcases hp.2.1 with e | e
    · rw [e]; exact h.nr
    · omega⟩
theorem Wx.uint {u w : World} {B a r M : Nat} {bs : List UInt8} {o : Obj} (h : Wx u w B a r bs M o) (v : Nat) (hv : v < 18446744073709551616) (hl : bs.length ≤ 1000000) : Calls Try.prog 66 #[.pointer (some ⟨a, 0, none⟩), .int .u64 (v : Int)] w fun e w' => e = .returned (.tuple #[]) ∧ ∃ r', Wx u w' B a r' (bs ++ W.uintB 9 v) M o :=
  (W.wUint a r bs v w h.wn.wr hv (by omega)).mono fun e w' ⟨h1, r', hp⟩ => ⟨h1, r', h.put hp⟩
theorem Wx.byte {u w : World} {B a r M : Nat} {bs : List UInt8} {o : Obj} (h : Wx u w B a r bs M o) (v : Int) (h0 : 0 ≤ v) (h1 : v < 256) (hl : bs.length ≤ 1000000) : Calls Try.prog 81 #[.pointer (some ⟨a, 0, none⟩), .int .u8 v] w fun e w' => e = .returned (.tuple #[]) ∧ ∃ r', Wx u w' B a r' (bs ++ [UInt8.ofNat v.toNat]) M o :=
  (W.wByte a r bs v w h.wn.wr h0 h1 (by omega)).mono fun e w' ⟨h1, r', hp⟩ => ⟨h1, r', h.put hp⟩
theorem Wx.text {u w : World} {B a r M : Nat} {bs : List UInt8} {o : Obj} (h : Wx u w B a r bs M o) (s : ByteArray) (hs : s.size ≤ 1000000) (hl : bs.length ≤ 1000000) : Calls Try.prog 82 #[.pointer (some ⟨a, 0, none⟩), .string s] w fun e w' => e = .returned (.tuple #[]) ∧ ∃ r', Wx u w' B a r' (bs ++ textB s) M o :=
  (W.wText a r bs s w h.wn.wr (by omega)).mono fun e w' ⟨h1, r', hp⟩ => ⟨h1, r', h.put hp⟩
theorem Wn.box {u w w' : World} {B a r N : Nat} {bs : List UInt8} {o : Obj} (h : Wn u w B a r bs) (hN : N = w.heap.size) (hb : Below N w w') (hx : w'.heap[N]? = some o) : Wx u w' B a r bs N o :=
  ⟨h.belw (by rw [← hN]; exact hb), hx, by have := h.wr.1; omega, by have := h.wr.2.1; omega⟩
set_option maxRecDepth 100000 in
set_option maxHeartbeats 4000000 in
theorem dPutSib (x : Sb) (hx : x.Fit) (hm : x.may) (u0 u : World) (B a r : Nat) (bs : List UInt8) (h : Wn u0 u B a r bs) (hl : bs.length ≤ 900000) : Calls Try.prog 67 #[.pointer (some ⟨a, 0, none⟩), x.v] u fun e u' => e = .returned (.tuple #[]) ∧ ∃ r', Wn u0 u' B a r' (bs ++ sibB x) := by
  obtain ⟨N, hN⟩ : ∃ N, N = u.heap.size := ⟨_, rfl⟩
  have HN := hide hN
  have HW := hide h
  have HL1 := hide hl
  have HFX := hide hx
  have hca : IntKind.u64.wrap (x.a : Int) = (x.a : Int) := by have := hx.1; rw [IntKind.wrap_u64]; omega
  have h4 : x.val.size ≤ 40 := by unfold Sb.may at hm; split at hm <;> omega
  have HV4 := hide h4
  have L1 := (uintB_len 9 x.a).2
  have L2 := (uintB_len 9 x.c).2
  have HL2 : Hid ((bs ++ W.uintB 9 x.a).length ≤ 1000000) := hide (by rw [List.length_append]; omega)
  have HL3 : Hid ((bs ++ W.uintB 9 x.a ++ W.uintB 9 x.c).length ≤ 1000000) := hide (by rw [List.length_append, List.length_append]; omega)
  have HL4 : Hid (∀ b : UInt8, (bs ++ W.uintB 9 x.a ++ W.uintB 9 x.c ++ [b]).length ≤ 1000000) := hide (fun b => by rw [List.length_append, List.length_append, List.length_append, List.length_cons, List.length_nil]; omega)
  have HR1 : Hid (x.gone = true → bs ++ W.uintB 9 x.a ++ W.uintB 9 x.c ++ [1] ++ textB x.val = bs ++ sibB x) := fun h => by unfold sibB; rw [h, if_pos rfl]; simp only [List.append_assoc]
  have HR0 : Hid (x.gone = false → bs ++ W.uintB 9 x.a ++ W.uintB 9 x.c ++ [0] ++ textB x.val = bs ++ sibB x) := fun h => by unfold sibB; rw [h, if_neg (by decide)]; simp only [List.append_assoc]
  clear hN h hl hx hm h4 L1 L2
  generalize bs ++ sibB x = bs5 at *
  obtain ⟨xa, xc, xg, xv⟩ := x
  cases xg
  · have HE := hide (unhide HR0 rfl)
    clear HR0 HR1
    go_enter Try.func67, Try.ntmps67
    go_wp2_with (first
      | ((with_reducible refine wpList_box_sib (by rfl) (.tmp 1) (by rfl) (some 3) (by rfl) N (unhide HN) ⟨xa, xc, false, xv⟩ (by with_unfolding_all rfl) ?_); intro W1 HX1 HB1 HS1; simp only [Act.put, List.setIfInBounds_toArray, List.set_cons_zero, List.set_cons_succ]; have HW1 := hide ((unhide HW).box (unhide HN) (unhide HB1) (unhide HX1)); obtain ⟨y0, y1, y2, y3⟩ := sib_cells (unhide HX1); clear HW HX1 HB1 HS1)
      | (go_at_call 66; refine ((unhide HW1).uint xa (Nat.lt_trans (unhide HFX).1 (by decide)) (Nat.le_trans (unhide HL1) (by decide))).mono ?_; rintro e W2 ⟨rfl, r2, hw2⟩; have HW2 := hide hw2; clear hw2 HW1; obtain ⟨y0, y1, y2, y3⟩ := sib_cells (unhide HW2).box)
      | (go_at_call 66; refine ((unhide HW2).uint xc (unhide HFX).2.1 (unhide HL2)).mono ?_; rintro e W3 ⟨rfl, r3, hw3⟩; have HW3 := hide hw3; clear hw3 HW2; obtain ⟨y0, y1, y2, y3⟩ := sib_cells (unhide HW3).box)
      | (go_at_call 81; refine ((unhide HW3).byte 0 (by decide) (by decide) (unhide HL3)).mono ?_; rintro e W4 ⟨rfl, r4, hw4⟩; have HW4 := hide hw4; clear hw4 HW3; obtain ⟨y0, y1, y2, y3⟩ := sib_cells (unhide HW4).box)
      | (go_at_call 82; refine ((unhide HW4).text xv (Nat.le_trans (unhide HV4) (by decide)) (unhide HL4 _)).mono ?_; rintro e W5 ⟨rfl, r5, hw5⟩; have HW5 := hide hw5; clear hw5 HW4)
      | fail)
    go_returns
    exact ⟨rfl, r5, by rw [← unhide HE]; exact (unhide HW5).wn⟩
  · have HE := hide (unhide HR1 rfl)
    clear HR0 HR1
    go_enter Try.func67, Try.ntmps67
    go_wp2_with (first
      | ((with_reducible refine wpList_box_sib (by rfl) (.tmp 1) (by rfl) (some 3) (by rfl) N (unhide HN) ⟨xa, xc, true, xv⟩ (by with_unfolding_all rfl) ?_); intro W1 HX1 HB1 HS1; simp only [Act.put, List.setIfInBounds_toArray, List.set_cons_zero, List.set_cons_succ]; have HW1 := hide ((unhide HW).box (unhide HN) (unhide HB1) (unhide HX1)); obtain ⟨y0, y1, y2, y3⟩ := sib_cells (unhide HX1); clear HW HX1 HB1 HS1)
      | (go_at_call 66; refine ((unhide HW1).uint xa (Nat.lt_trans (unhide HFX).1 (by decide)) (Nat.le_trans (unhide HL1) (by decide))).mono ?_; rintro e W2 ⟨rfl, r2, hw2⟩; have HW2 := hide hw2; clear hw2 HW1; obtain ⟨y0, y1, y2, y3⟩ := sib_cells (unhide HW2).box)
      | (go_at_call 66; refine ((unhide HW2).uint xc (unhide HFX).2.1 (unhide HL2)).mono ?_; rintro e W3 ⟨rfl, r3, hw3⟩; have HW3 := hide hw3; clear hw3 HW2; obtain ⟨y0, y1, y2, y3⟩ := sib_cells (unhide HW3).box)
      | (go_at_call 81; refine ((unhide HW3).byte 1 (by decide) (by decide) (unhide HL3)).mono ?_; rintro e W4 ⟨rfl, r4, hw4⟩; have HW4 := hide hw4; clear hw4 HW3; obtain ⟨y0, y1, y2, y3⟩ := sib_cells (unhide HW4).box)
      | (go_at_call 82; refine ((unhide HW4).text xv (Nat.le_trans (unhide HV4) (by decide)) (unhide HL4 _)).mono ?_; rintro e W5 ⟨rfl, r5, hw5⟩; have HW5 := hide hw5; clear hw5 HW4)
      | fail)
    go_returns
    exact ⟨rfl, r5, by rw [← unhide HE]; exact (unhide HW5).wn⟩
open Classical in
/-- what Encode answers -/
noncomputable def encT (s : St) : ByteArray × Int := if SOk s then (⟨(stB s).toArray⟩, 0) else (⟨#[]⟩, 110)
theorem stB_len {s : St} (h : SOk s) : (stB s).length ≤ 10000 := by
  have h1 := sibsB_len h.may
  have h2 := (uintB_len 9 s.sibs.length).2
  have h3 := h.len
  have h5 : (vecB s.seen).length ≤ 1290 := by
    have h6 := dotsB_len s.seen
    have h7 := (uintB_len 9 s.seen.length).2
    have h8 := h.slen
    unfold vecB
    rw [List.length_append]; omega
  unfold stB
  rw [List.length_append, List.length_append]
  omega
set_option maxRecDepth 100000 in
set_option maxHeartbeats 4000000 in
theorem dEncode (s : St) (v : Sv) (u : World) (h : SAt u s v) (t : ByteArray) (r : Int) (he : encT s = (t, r)) : Calls Try.prog 31 #[v.v s.seen.length s.sibs.length] u fun e u' => e = .returned (.tuple #[.string t, .int .i64 r]) ∧ Below u.heap.size u u' := by
  obtain ⟨N, hN⟩ : ∃ N, N = u.heap.size := ⟨_, rfl⟩
  have HN := hide hN
  have HA := hide h
  rw [← hN]
  obtain ⟨n1, hn1⟩ : ∃ n, n = s.seen.length := ⟨_, rfl⟩
  obtain ⟨m1, hm1⟩ : ∃ n, n = s.sibs.length := ⟨_, rfl⟩
  have E1 := hide hn1
  have E2 := hide hm1
  rw [← hn1, ← hm1]
  have HV1 : Hid (∀ W : World, SAt W s v → Calls Try.prog 15 #[v.v n1 m1] W fun e W' => e = .returned (.bool (sokB s)) ∧ Below W.heap.size W W') := fun W h => by rw [hn1, hm1]; exact dValid' s v W h
  have HU : Hid (∀ W : World, Below N u W → Below u.heap.size u W) := fun W hW => by rw [← unhide HN]; exact hW
  by_cases os : SOk s
  · rw [show encT s = (⟨(stB s).toArray⟩, 0) by unfold encT; rw [if_pos os]] at he
    cases he
    rw [sokB_true.2 os] at HV1
    have HOS := hide os
    have hm64 : (m1 : Int) ≤ 64 := by have := os.len; omega
    have HM64 : Hid (m1 < 18446744073709551616) := hide (by omega)
    have hcm : IntKind.u64.wrap (m1 : Int) = (m1 : Int) := by rw [IntKind.wrap_u64]; omega
    have HPV : Hid (∀ (u0 w : World) (a r : Nat), SAt u0 s v → Wn u0 w u0.heap.size a r [] → Calls Try.prog 65 #[.pointer (some ⟨a, 0, none⟩), .slice v.sa n1 v.sc] w fun e w' => e = .returned (.int .i64 0) ∧ ∃ r', Wn u0 w' u0.heap.size a r' (vecB s.seen)) := fun u0 w a r hs hw => by
      rw [hn1]
      refine (vPut s.seen v.sa v.sc a r [] u0 w hs.seen.at hw (by simp)).mono ?_
      rintro e w' ⟨r', h1, _⟩
      have := h1 (V.okB_true.2 os.ok)
      exact ⟨this.1, r', this.2⟩
    have HLV : Hid ((vecB s.seen).length ≤ 10000 ∧ (vecB s.seen ++ W.uintB 9 m1).length ≤ 10000 ∧ ∀ k, k ≤ m1 → (vecB s.seen ++ W.uintB 9 m1 ++ sibsB (s.sibs.take k)).length ≤ 10000) := by
      have h0 := stB_len os
      have h1 : ∀ k, (sibsB (s.sibs.take k)).length ≤ (sibsB s.sibs).length := fun k => by
        have : sibsB s.sibs = sibsB (s.sibs.take k) ++ sibsB (s.sibs.drop k) := by unfold sibsB; rw [← List.flatMap_append, List.take_append_drop]
        rw [this, List.length_append]; omega
      unfold stB at h0
      rw [List.length_append, List.length_append, ← hm1] at h0
      refine ⟨by omega, by rw [List.length_append]; omega, fun k _ => ?_⟩
      have := h1 k
      rw [List.length_append, List.length_append]; omega
    have HSB : Hid (vecB s.seen ++ W.uintB 9 m1 ++ sibsB (s.sibs.take m1) = stB s) := by
      unfold stB
      rw [hm1, List.take_of_length_le (Nat.le_refl _), List.append_assoc]; exact rfl
    have HNW : Hid (∀ X : World, Calls Try.prog 64 #[] X fun e X' => ∃ a r, e = .returned (.pointer (some ⟨a, 0, none⟩)) ∧ Wn X X' X.heap.size a r []) := fun X => (W.wNew X).mono fun e X' hh => by
      obtain ⟨h1, h2⟩ := hh
      exact ⟨_, _, h1, by rw [h2]; exact Wn.new X 111⟩
    clear hN hn1 hm1 h os
    generalize stB s = SB at *
    go_enter Try.func31, Try.ntmps31
    go_wp2_with (first
      | ((with_reducible refine wpList_box_state (by rfl) (.tmp 0) (by rfl) (some 1) (by rfl) N (unhide HN) v n1 m1 (by with_unfolding_all rfl) ?_); intro W1 HX1 HB1 HS1; simp only [Act.put, List.setIfInBounds_toArray, List.set_cons_zero, List.set_cons_succ]; have HA1 := hide ((unhide HA).below (unhide HU _ (unhide HB1))); obtain ⟨x0, x1⟩ := st_cells (unhide HX1))
      | (go_at_call 15; refine (unhide HV1 W1 (unhide HA1)).mono ?_; rintro e W2 ⟨rfl, hb2⟩; have HB2 := hide hb2; clear hb2; have HA2 := hide ((unhide HA1).below (unhide HB2)); have HX2 := hide (box_below (unhide HX1) (unhide HB2)))
      | (go_at_call 64; refine (unhide HNW W2).mono ?_; rintro e W3 ⟨a, r3, rfl, hw3⟩; have HW3 := hide hw3; clear hw3; obtain ⟨x0, x1⟩ := st_cells (box_below (unhide HX2) (unhide HW3).below))
      | (go_at_call 65; refine (unhide HPV W2 W3 a r3 (unhide HA2) (unhide HW3)).mono ?_; rintro e W4 ⟨rfl, r4, hw4⟩; have HW4 := hide hw4; clear hw4; obtain ⟨x0, x1⟩ := st_cells (box_below (unhide HX2) (unhide HW4).below))
      | (go_at_call 66; refine (W.wUint a r4 _ m1 W4 (unhide HW4).wr (unhide HM64) (by have := (unhide HLV).1; omega)).mono ?_; rintro e W5 ⟨rfl, r5, hp5⟩; have HW5 := hide ((unhide HW4).put hp5); clear hp5; obtain ⟨x0, x1⟩ := st_cells (box_below (unhide HX2) (unhide HW5).below))
      | fail)
    have HBU : Hid (∀ W : World, Below W2.heap.size W2 W → Below N u W) := fun W hW => (unhide HB1).trans (((unhide HB2).trans (hW.mono (unhide HB2).size)).mono (by rw [unhide HS1]; omega))
    have HLA := hide (unhide HA2).sibs
    clear x0 x1 HA HA1 HB1 HB2 HX1 HS1 HA2 HV1 HPV HNW HW3 HW4
    go_loopw [24] (fun s24 wr => ∃ (k r6 : Nat), k ≤ m1 ∧ s24 = .int .i64 k ∧ Hid (Wn W2 wr W2.heap.size a r6 (vecB s.seen ++ W.uintB 9 m1 ++ sibsB (s.sibs.take k)))) (fun s24 _ => m1 - (intOf s24).toNat)
    case atStart => exact ⟨0, r5, Nat.zero_le _, rfl, by rw [List.take_zero, show sibsB [] = [] from rfl, List.append_nil]; exact unhide HW5⟩
    case round =>
      obtain ⟨k, r6, hk, rfl, HI⟩ := hrel
      by_cases hlt : k < m1
      · have hki : (k : Int) < (m1 : Int) := by omega
        have hkl : k < s.sibs.length := by rw [← unhide E2]; exact hlt
        obtain ⟨g, o, hao, c1, c2, c3, c4⟩ := ((unhide HLA).lies.below (unhide HI).below).sb hkl
        have hix := ixS g o m1 v.bc k hlt
        obtain ⟨M, hM⟩ : ∃ M, M = wr.heap.size := ⟨_, rfl⟩
        have HM := hide hM
        clear hM
        have HFQ := hide ((unhide HLA).fits _ (List.getElem_mem hkl))
        have HMQ := hide ((unhide HOS).may _ (List.getElem_mem hkl))
        have HTK := hide (sibsB_take s.sibs hkl)
        have HLK := hide ((unhide HLV).2.2 k hk)
        generalize s.sibs[k] = q at *
        have c1 : wr.cell? ⟨g, o + k * 4, none⟩ = some (.int .u32 (q.a : Int)) := c1
        have c2 : wr.cell? ⟨g, o + k * 4 + 1, none⟩ = some (.int .u64 (q.c : Int)) := c2
        have c3 : wr.cell? ⟨g, o + k * 4 + 2, none⟩ = some (.bool q.gone) := c3
        have c4 : wr.cell? ⟨g, o + k * 4 + 3, none⟩ = some (.string q.val) := c4
        generalize o + k * 4 = oo at *
        rw [hao]
        go_wp2_with (first
          | ((with_reducible refine wpList_alloc_sib (by rfl) (by rfl) (some 6) (by rfl) M (unhide HM) ?_); intro W7 HX7 HB7 HS7; simp only [Act.put, List.setIfInBounds_toArray, List.set_cons_zero, List.set_cons_succ])
          | ((with_reducible refine wpList_store_sib (by rfl) (.tmp 6) (.tmp 27) (by rfl) M q (by with_unfolding_all rfl) (by with_unfolding_all rfl) (unhide HX7) ?_); intro W8 HX8 HE8; simp only [Act.put]; have HW8 := hide ((unhide HI).belw (w' := W8) (by rw [← unhide HM, unhide HE8]; exact belowRow (unhide HB7) (Nat.le_refl _) _)); obtain ⟨y0, y1, y2, y3⟩ := sib_cells (unhide HX8))
          | (go_at_call 67; refine (dPutSib q (unhide HFQ) (unhide HMQ) W2 W8 _ a r6 _ (unhide HW8) (Nat.le_trans (unhide HLK) (by decide))).mono ?_; rintro e W9 ⟨rfl, r9, hw9⟩; have HW9 := hide hw9; clear hw9)
          | fail)
        go_roundw
        case rel => exact ⟨k + 1, r9, by omega, by go_num, by rw [unhide HTK, ← List.append_assoc]; exact unhide HW9⟩
        case measure => simp [intOf]; omega
      · obtain rfl : k = m1 := by omega
        have hki : ¬ (k : Int) < (k : Int) := by omega
        have HI2 : Hid (Wn W2 wr W2.heap.size a r6 SB) := by rw [← unhide HSB]; exact unhide HI
        go_wp2_with (first
          | (go_at_call 68; refine (W.wTold a r6 SB wr (unhide HI2).wr).mono ?_; rintro e W9 ⟨rfl, rfl⟩)
          | fail)
        go_ret2
        exact ⟨rfl, unhide HBU _ (unhide HI2).below⟩
  · rw [show encT s = (⟨#[]⟩, 110) by unfold encT; rw [if_neg os]] at he
    cases he
    rw [sokB_false.2 os] at HV1
    clear hN hn1 hm1 h os
    go_enter Try.func31, Try.ntmps31
    go_wp2_with (first
      | ((with_reducible refine wpList_box_state (by rfl) (.tmp 0) (by rfl) (some 1) (by rfl) N (unhide HN) v n1 m1 (by with_unfolding_all rfl) ?_); intro W1 HX1 HB1 HS1; simp only [Act.put, List.setIfInBounds_toArray, List.set_cons_zero, List.set_cons_succ]; have HA1 := hide ((unhide HA).below (unhide HU _ (unhide HB1))); obtain ⟨x0, x1⟩ := st_cells (unhide HX1))
      | (go_at_call 15; refine (unhide HV1 W1 (unhide HA1)).mono ?_; rintro e W2 ⟨rfl, hb2⟩; have HB2 := hide hb2; clear hb2)
      | fail)
    go_ret2
    exact ⟨rfl, (unhide HB1).trans ((unhide HB2).mono (by rw [unhide HS1]; omega))⟩
end Go.Proofs.Ytbahfpcfjhifbaa
