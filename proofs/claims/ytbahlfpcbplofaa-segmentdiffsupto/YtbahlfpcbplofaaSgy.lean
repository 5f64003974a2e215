/- The walk of SegmentPieces. Written by mksgy.py. -/
import Derived.Test.YtbahlfpcbplofaaSgx
namespace Go.Proofs.Ytbahlfpcbplofaa.S
open Go.RowKit Go.Lib
theorem own_rng {w : World} {B : Nat} {l : List En} {ao : Option Addr} {c : Nat} (h : RE.Own w B l ao c) (ad : Addr) (e : ao = some ad) : B ≤ ad.block ∧ ad.block < w.heap.size := by
  subst e
  exact World.ownsRow.lt h ad.block rfl
theorem pie_len (l : List En) (k : ByteArray) : (pieV l k).1.length ≤ 64 := by
  unfold pieV
  split
  · rw [List.length_take]; omega
  · exact Nat.zero_le _
/-- what again has, from what was made one behind the other -/
theorem Ag.mk' {w : World} {B : Nat} {li d : List En} {g n cc : Nat} {xo : Option Addr} {xk xc : Nat} {yo : Option Addr} {yk yc : Nat} {zo : Option Addr} {zk zc : Nat} {W1 W2 W3 W4 : World}
    (hle : Le w B li g n cc) (hB : B ≤ w.heap.size) (hg : g < W1.heap.size) (h12 : W1.heap.size ≤ W2.heap.size) (h23 : W2.heap.size ≤ W3.heap.size)
    (hz : RE.Own W2 W1.heap.size d zo zc) (hzk : zk = d.length) (hx : RE.Own W3 W2.heap.size d xo xc) (hxk : xk = d.length) (hy : RE.Own W4 W3.heap.size d yo yc) (hyk : yk = d.length)
    (hd : d.length ≤ 4398046511000) (b2 : Below W2.heap.size W2 w) (b3 : Below W3.heap.size W3 w) (b4 : Below W4.heap.size W4 w) (hB2 : B ≤ W2.heap.size) : Ag w B B li d g n cc xo xk xc yo yk yc zo zk zc :=
  ⟨hle, (hx.below b3).down hB2, hxk, ⟨(hy.below b4).at hd, hyk⟩, ⟨(hz.below b2).at hd, hzk⟩,
    fun x y e1 e2 hh => by cases e2; have := own_rng hx x e1; simp only at hh; omega,
    fun x y e1 e2 hh => by cases e2; have := own_rng hy x e1; simp only at hh; omega,
    fun x y e1 e2 hh => by cases e2; have := own_rng hz x e1; simp only at hh; omega,
    fun x y e1 e2 hh => by have h1 := own_rng hy x e1; have h2 := own_rng hx y e2; omega,
    fun x y e1 e2 hh => by have h1 := own_rng hz x e1; have h2 := own_rng hx y e2; omega,
    hB, hle.blk.1⟩
set_option maxRecDepth 100000 in
set_option maxHeartbeats 8000000 in
theorem pieces14_walk (l : List En) (ao : Option Addr) (n c : Nat) (k : ByteArray) (u : World) (h : El u l ao n c) : Calls Try.prog 7 #[.slice ao n c, .string k] u fun e u' => e = .returned (.bool true) ∧ Below u.heap.size u u' := by
  have HH := hide h
  have HLT := hide (lLent l ao n c u h)
  obtain ⟨d, r, hdr⟩ : ∃ d r, pieV l k = (d, r) := ⟨_, _, rfl⟩
  have HDL : Hid (d.length ≤ 4398046511000) := by
    have := pie_len l k
    rw [hdr] at this
    exact Nat.le_trans this (by decide)
  have HQ : Hid (∀ G : World, El G l ao n c → Calls Try.prog 38 #[.slice ao n c, .string k] G fun e u' => ∃ xo m cc, e = .returned (.tuple #[.slice xo m cc, .bool r]) ∧ m = d.length ∧ RE.Own u' G.heap.size d xo cc ∧ Below G.heap.size G u') := fun G hG => qPiece l ao n c k G hG d r hdr
  have HS : Hid (∀ (G : World) (xo : Option Addr) (cc : Nat), El G l xo n cc → Calls Try.prog 39 #[.slice xo n cc, .string k] G fun e u' => ∃ yo m cd, e = .returned (.tuple #[.slice yo m cd, .bool r]) ∧ m = d.length ∧ RE.Own u' G.heap.size d yo cd ∧ Below G.heap.size G u') := fun G xo cc hG => sPiece l xo n cc k G hG d r hdr
  have HKP : Hid (∀ (W : World) (g cc : Nat), Le W u.heap.size l g n cc → El W l ao n c → Calls Try.prog 26 #[.slice (some ⟨g, 0, none⟩) n cc, .slice ao n c] W fun e u' => e = .returned (.bool true) ∧ Below W.heap.size W u') := fun W g cc h1 h2 => lKept l _ g n cc ao c W h1 h2
  clear h hdr
  have hrr : (r != r) = false := by simp
  go_enter Try.func7, Try.ntmps7
  go_wp2_with (first
    | (go_at_call 17; refine (unhide HLT).mono ?_; rintro e W1 ⟨g, cc, rfl, hl, hb⟩; have HB1 := hide hb; have HL1 := hide hl; have HG1 : Hid (g < W1.heap.size) := hl.blk.2; clear hb hl HLT)
    | (go_at_call 38; refine (unhide HQ W1 ((unhide HH).below (unhide HB1))).mono ?_; rintro e W2 ⟨zo, zk, zc, rfl, hzk, hz, hb⟩; have HB2 : Hid (Below u.heap.size u W2) := Below.step (unhide HB1) hb; have HL2 := hide ((unhide HL1).below hb); have HZ := hide hz; have HZK := hide hzk; have H12 : Hid (W1.heap.size ≤ W2.heap.size) := hb.size; clear hb hz hzk HQ HL1)
    | (go_at_call 39; refine (unhide HS W2 (some ⟨g, 0, none⟩) cc (unhide HL2).el).mono ?_; rintro e W3 ⟨xo, xk, xc, rfl, hxk, hx, hb⟩; have HB3 : Hid (Below u.heap.size u W3) := Below.step (unhide HB2) hb; have HL3 := hide ((unhide HL2).below hb); have HX := hide hx; have HXK := hide hxk; have H23 : Hid (Below W2.heap.size W2 W3) := hb; have HS3 : Hid (∀ (xo : Option Addr) (cc : Nat), El W3 l xo n cc → Calls Try.prog 39 #[.slice xo n cc, .string k] W3 fun e u' => ∃ yo m cd, e = .returned (.tuple #[.slice yo m cd, .bool r]) ∧ m = d.length ∧ RE.Own u' W3.heap.size d yo cd ∧ Below W3.heap.size W3 u') := unhide HS W3; clear hb hx hxk HL2 HS)
    | (go_at_call 39; refine (unhide HS3 (some ⟨g, 0, none⟩) cc (unhide HL3).el).mono ?_; rintro e W4 ⟨yo, yk, yc, rfl, hyk, hy, hb⟩; have HB4 : Hid (Below u.heap.size u W4) := Below.step (unhide HB3) hb; have HL4 := hide ((unhide HL3).below hb); have HY := hide hy; have HYK := hide hyk; have H34 : Hid (Below W3.heap.size W3 W4) := hb; clear hb hy hyk HL3 HS3)
    | (go_at_call 26; refine (unhide HKP W4 g cc (unhide HL4) ((unhide HH).below (unhide HB4))).mono ?_; rintro e W5 ⟨rfl, hb⟩; have HB5 : Hid (Below u.heap.size u W5) := Below.step (unhide HB4) hb; have HL5 := hide ((unhide HL4).below hb); have HAG : Hid (Ag W5 u.heap.size u.heap.size l d g n cc xo xk xc yo yk yc zo zk zc) := Ag.mk' (W1 := W1) (W2 := W2) (W3 := W3) (W4 := W4) (unhide HL5) (unhide HB5).size (unhide HG1) (unhide H12) (unhide H23).size (unhide HZ) (unhide HZK) (unhide HX) (unhide HXK) (unhide HY) (unhide HYK) (unhide HDL) (Below.step (Below.step (unhide H23) (unhide H34)) hb) (Below.step (unhide H34) hb) hb (unhide HB2).size; clear hb HL4 HKP)
    | (go_at_call 34; refine (lAgain (unhide HAG)).mono ?_; rintro e W6 ⟨rfl, ⟨li, hl⟩, hb⟩; have HB6 : Hid (Below u.heap.size u W6) := (unhide HB5).trans hb; have HL6 := hide hl; obtain ⟨d2, r2, hdr2⟩ : ∃ d r, pieV li k = (d, r) := ⟨_, _, rfl⟩; have HD2 := hide hdr2; have HDL2 : Hid (d2.length ≤ 4398046511000) := (by have h1 := pie_len li k; rw [hdr2] at h1; exact Nat.le_trans h1 (by decide)); have HLN : Hid (n = li.length) := hl.hn; have HLE := hide hl.el; have HRF : Hid (Below W6.heap.size W6 W6) := Below.refl _ _; have hr2 : (r2 == r2) = true := (by simp); clear hb hl HAG hdr2)
    | (at_builtin; (with_reducible refine wpList_putE (by rfl) (.tmp 55) (.tmp 56) (by rfl) (some 57) (by rfl) W6.heap.size [] li 0 n rfl (unhide HLN) (some ⟨W6.heap.size, 0, none⟩) (some ⟨g, 0, none⟩) 0 cc (by with_unfolding_all rfl) (by with_unfolding_all rfl) (Own.empty W6 _ (Nat.le_refl _)) (atNew (unhide HLE) (unhide HRF) _) (unhide HLE).l0 (szNew W6 _) ?_); intro x7 n7 c7 W7 HP7; simp only [Act.put, List.setIfInBounds_toArray, List.set_cons_zero, List.set_cons_succ]; have HB7' : Hid (Below W6.heap.size W6 W7) := Below.step (unhide HRF) ((unhide HP7).below0); have hn7 : n = n7 := ((unhide HP7).len.trans (unhide HLN).symm).symm; subst hn7; have HN7 : Hid (El W7 li x7 n c7) := ⟨(unhide HP7).own.at (unhide HLE).many, unhide HLN⟩; have HQ7 : Hid (Calls Try.prog 38 #[.slice x7 n c7, .string k] W7 fun e u' => ∃ xo m cc, e = .returned (.tuple #[.slice xo m cc, .bool r2]) ∧ m = d2.length ∧ RE.Own u' W7.heap.size d2 xo cc ∧ Below W7.heap.size W7 u') := qPiece li x7 n c7 k W7 (unhide HN7) d2 r2 (unhide HD2); have HB7 : Hid (Below u.heap.size u W7) := Below.step (unhide HB6) (unhide HB7'))
    | (go_at_call 38; refine (unhide HQ7).mono ?_; rintro e W8 ⟨wo, wk, wc, rfl, hwk, hw, hb⟩; have HB8 : Hid (Below u.heap.size u W8) := Below.step (unhide HB7) hb; have HW8 : Hid (El W8 d2 wo wk wc) := ⟨hw.at (unhide HDL2), hwk⟩; have HS8 : Hid (Calls Try.prog 39 #[.slice (some ⟨g, 0, none⟩) n cc, .string k] W8 fun e u' => ∃ xo m cc, e = .returned (.tuple #[.slice xo m cc, .bool r2]) ∧ m = d2.length ∧ RE.Own u' W8.heap.size d2 xo cc ∧ Below W8.heap.size W8 u') := sPiece li _ n cc k W8 (((unhide HLE).below (unhide HB7')).below hb) d2 r2 (unhide HD2); clear hb hw hwk HQ7)
    | (go_at_call 39; refine (unhide HS8).mono ?_; rintro e W9 ⟨vo, vk, vc, rfl, hvk, hv, hb⟩; have HB9 : Hid (Below u.heap.size u W9) := Below.step (unhide HB8) hb; have HSM : Hid (Calls Try.prog 37 #[.slice vo vk vc, .slice wo wk wc] W9 fun e u' => e = .returned (.bool true) ∧ Below W9.heap.size W9 u') := (by have h1 := qSame d2 d2 _ _ vk wk vc wc W9 ⟨hv.at (unhide HDL2), hvk⟩ ((unhide HW8).below hb); rwa [decide_eq_true rfl] at h1); clear hb hv hvk HS8)
    | (go_at_call 37; refine (unhide HSM).mono ?_; rintro e W10 ⟨rfl, hb⟩; have HB10 : Hid (Below u.heap.size u W10) := Below.step (unhide HB9) hb; clear hb)
    | fail)
  go_ret
  exact ⟨rfl, unhide HB10⟩
end Go.Proofs.Ytbahlfpcbplofaa.S
