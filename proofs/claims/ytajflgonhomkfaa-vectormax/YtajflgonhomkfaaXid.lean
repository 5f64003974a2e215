/- Vectors: the walk of VectorMax. -/
import Derived.Test.YtajflgonhomkfaaXib
import Derived.Test.YtajflgonhomkfaaXic
import Derived.Test.YtajflgonhomkfaaXhe
namespace Go.Proofs.Ytajflgonhomkfaa
open Go.RowKit

/-- dots of one's own, in blocks from B to E -/
structure In (w : World) (B E : Nat) (l : List (Nat × Nat)) (ao : Option Addr) (c : Nat) : Prop where
  own : OwnD w B l ao c
  lt : ∀ y, ao = some y → y.block < E
theorem In.below {w w' : World} {B E : Nat} {l : List (Nat × Nat)} {ao : Option Addr} {c : Nat} (h : In w B E l ao c) (hb : Below w.heap.size w w') : In w' B E l ao c := ⟨h.own.below hb, h.lt⟩
theorem In.sp {w w' : World} {B E : Nat} {l : List (Nat × Nat)} {ao bo : Option Addr} {c : Nat} (h : In w B E l bo c) (hs : Sp w w' ao) (hx : ∀ x, ao = some x → E ≤ x.block ∨ x.block < B) : In w' B E l bo c :=
  ⟨hs.keep h.own (fun x y h1 h2 => by
    have h3 := h.lt y h2
    have h4 := (h.own.blkx y h2).1
    have h5 := hx x h1
    omega), h.lt⟩
/-- a list that was lent, in a block from B to E -/
structure LI (w : World) (B E : Nat) (l : List (Nat × Nat)) (g cc : Nat) : Prop where
  le : Le w B l g cc
  lt : g < E
theorem LI.below {w w' : World} {B E : Nat} {l : List (Nat × Nat)} {g cc : Nat} (h : LI w B E l g cc) (hb : Below w.heap.size w w') : LI w' B E l g cc := ⟨h.le.below hb, h.lt⟩
theorem LI.sp {w w' : World} {B E : Nat} {l : List (Nat × Nat)} {g cc : Nat} {ao : Option Addr} (h : LI w B E l g cc) (hs : Sp w w' ao) (hx : ∀ x, ao = some x → E ≤ x.block ∨ x.block < B) : LI w' B E l g cc :=
  ⟨h.le.keep fun g' hg' => by
    subst hg'
    refine hs.block g' h.le.blk.2 (fun x hxa => ?_)
    have h1 := h.lt
    have h2 := h.le.blk.1
    have h3 := hx x hxa
    omega, h.lt⟩
theorem max_fits {a b : List (Nat × Nat)} (ha : Fits a) (hb : Fits b) : Fits (maxV a b).1 ∧ (maxV a b).1.length ≤ 64 := by
  have h0 : Fits ([] : List (Nat × Nat)) ∧ ([] : List (Nat × Nat)).length ≤ 64 := ⟨fun d hd => (by cases hd), Nat.zero_le _⟩
  unfold maxV
  split
  · split
    · exact ⟨fits_mrg ha hb, by assumption⟩
    · exact h0
  · exact h0
theorem maxR {a b : List (Nat × Nat)} {xa xb : Option Addr} {ca cb na nb n : Nat} {m : List (Nat × Nat)} {r : Int} (hd : maxV a b = (m, r)) (en : n = m.length) (ea : na = a.length) (eb : nb = b.length) (W : World) (ha : Da W a xa ca) (hb : Da W b xb cb) :
    Calls Try.prog 19 #[.slice xa na ca, .slice xb nb cb] W fun e W' => ∃ xm cm, e = .returned (.tuple #[.slice xm n cm, .int .i64 r]) ∧ In W' W.heap.size W'.heap.size m xm cm ∧ Below W.heap.size W W' := by
  subst en ea eb
  refine (rMax a b xa xb ca cb W ha hb).mono ?_
  rw [hd]
  rintro e W' ⟨xm, cm, he, ho, hb'⟩
  exact ⟨xm, cm, he, ⟨ho, fun y hy => (ho.blkx y hy).2⟩, hb'⟩
theorem maxP {a b : List (Nat × Nat)} {xa xb : Option Addr} {ca cb na nb n : Nat} {m : List (Nat × Nat)} {r : Int} (hd : maxV a b = (m, r)) (en : n = m.length) (ea : na = a.length) (eb : nb = b.length) (W : World) (ha : Da W a xa ca) (hb : Da W b xb cb) :
    Calls Try.prog 20 #[.slice xa na ca, .slice xb nb cb] W fun e W' => ∃ xm cm, e = .returned (.tuple #[.slice xm n cm, .int .i64 r]) ∧ In W' W.heap.size W'.heap.size m xm cm ∧ Below W.heap.size W W' := by
  subst en ea eb
  refine (vMax a b xa xb ca cb W ha hb).mono ?_
  rw [hd]
  rintro e W' ⟨xm, cm, he, ho, hb'⟩
  exact ⟨xm, cm, he, ⟨ho, fun y hy => (ho.blkx y hy).2⟩, hb'⟩
theorem spoilL {W : World} {B E g cc n x : Nat} {l : List (Nat × Nat)} (hx : x ≤ 1000) (en : n = l.length) (h : LI W B E l g cc) : Calls Try.prog 22 #[.slice (some ⟨g, 0, none⟩) n cc, .int .u64 (x : Int)] W fun e W' => e = .returned (.tuple #[]) ∧ Sp W W' (some ⟨g, 0, none⟩) := by
  have hl : (l ++ mks).length = l.length + 3 := by rw [List.length_append]; rfl
  have hl2 := h.le.len
  refine (lSpoil x hx (l ++ mks) n (by rw [hl]; omega) _ cc B W (by rw [hl]; omega) h.le.own).mono ?_
  rintro e W' ⟨he, hs, _⟩
  exact ⟨he, hs⟩
theorem spoilG {W : World} {B E c n : Nat} {ao : Option Addr} {l : List (Nat × Nat)} (hl : l.length ≤ 64) (en : n = l.length) (h : In W B E l ao c) : Calls Try.prog 22 #[.slice ao n c, .int .u64 4] W fun e W' => e = .returned (.tuple #[]) ∧ Sp W W' ao ∧ ∃ l2, n = l2.length ∧ In W' B E l2 ao c := by
  refine (lSpoil 4 (by decide) l n (by omega) ao c B W (Nat.le_trans hl (by decide)) h.own).mono ?_
  rintro e W' ⟨he, hs, l2, h2, ho⟩
  exact ⟨he, hs, l2, by omega, ho, h.lt⟩
set_option maxRecDepth 100000 in
set_option maxHeartbeats 16000000 in
theorem max10_walk (a b : List (Nat × Nat)) (xa xb : Option Addr) (ca cb : Nat) (u : World) (h1 : Da u a xa ca) (h2 : Da u b xb cb) :
    Calls Try.prog 5 #[.slice xa a.length ca, .slice xb b.length cb] u fun e u' => e = .returned (.bool true) ∧ Below u.heap.size u u' := by
  have H1 := hide h1
  have H2 := hide h2
  obtain ⟨na, hna⟩ : ∃ n, n = a.length := ⟨_, rfl⟩
  obtain ⟨nb, hnb⟩ : ∃ n, n = b.length := ⟨_, rfl⟩
  rw [← hna, ← hnb]
  have EA := hide hna
  have EB := hide hnb
  have EA2 : Hid (na = (trn a).length) := by rw [trn_len]; exact hna
  have EB2 : Hid (nb = (trn b).length) := by rw [trn_len]; exact hnb
  obtain ⟨⟨m, r⟩, hmr⟩ : ∃ p : List (Nat × Nat) × Int, maxV a b = p := ⟨_, rfl⟩
  obtain ⟨⟨m2, r2⟩, hmr2⟩ : ∃ p : List (Nat × Nat) × Int, maxV (trn a) (trn b) = p := ⟨_, rfl⟩
  have HMR := hide hmr
  have HMR2 := hide hmr2
  have HMF : Hid (Fits m ∧ m.length ≤ 64) := by have := max_fits h1.fits h2.fits; rw [hmr] at this; exact this
  have HMF2 : Hid (Fits m2 ∧ m2.length ≤ 64) := by have := max_fits (trn_fits h1.fits) (trn_fits h2.fits); rw [hmr2] at this; exact this
  obtain ⟨nm, hnm⟩ : ∃ n, n = m.length := ⟨_, rfl⟩
  obtain ⟨nm2, hnm2⟩ : ∃ n, n = m2.length := ⟨_, rfl⟩
  have EM := hide hnm
  have EM2 := hide hnm2
  have hnmi : (nm : Int) ≤ 64 := by have := (unhide HMF).2; omega
  have HNM : Hid (nm ≤ 1000) := by have := (unhide HMF).2; show nm ≤ 1000; omega
  clear h1 h2 hna hnb hmr hmr2 hnm hnm2
  obtain ⟨N, hN⟩ : ∃ N, N = u.heap.size := ⟨_, rfl⟩
  rw [← hN]
  have HUP : Hid (∀ W W' : World, Below N u W → Below W.heap.size W W' → Below N u W') := fun W W' h1 h2 => h1.trans (h2.mono (by rw [hN]; exact h1.size))
  have HSZ : Hid (∀ W : World, Below N u W → N ≤ W.heap.size) := fun W h => by rw [hN]; exact h.size
  have HUS : Hid (∀ (W W' : World) (ao : Option Addr), Below N u W → Sp W W' ao → (∀ x, ao = some x → N ≤ x.block) → Below N u W') := fun W W' ao h1 h2 h3 => h1.trans (h2.below (by rw [hN]; exact h1.size) h3)
  have HKA : Hid (∀ W : World, Below N u W → Da W a xa ca) := fun W h => (unhide H1).below (by rw [← hN]; exact h)
  have HKB : Hid (∀ W : World, Below N u W → Da W b xb cb) := fun W h => (unhide H2).below (by rw [← hN]; exact h)
  have X1 := hide (maxR (unhide HMR) (unhide EM) (unhide EA) (unhide EB) u (unhide H1) (unhide H2))
  have HBX : Hid (Below N u u) := Below.refl _ _
  rw [← hN] at X1
  clear hN H1 H2
  go_enter Try.func5, Try.ntmps5
  go_upto_region 2 with (first
    | (go_at_call 19; refine (unhide X1).mono ?_; rintro e W1 ⟨xw, cw, rfl, hi, hb1⟩; replace HBX := hide hb1; have HOW := hide hi; clear X1 hb1 hi)
    | fail)
  obtain ⟨k1, hk1⟩ : ∃ k, k = W1.heap.size := ⟨_, rfl⟩
  have HK1 : Hid (N ≤ k1) := by rw [hk1]; exact unhide HSZ _ (unhide HBX)
  have X2 := hide (lentD (unhide EA) W1 (unhide HKA _ (unhide HBX)))
  rw [← hk1] at HOW X2
  have HKE1 := hide hk1
  clear hk1
  have HBK1 : Hid (∀ W' : World, Below k1 W1 W' → Below N u W' ∧ In W' N k1 m xw cw) := fun W' hb => ⟨unhide HUP _ _ (unhide HBX) (by rw [← unhide HKE1]; exact hb), (unhide HOW).below (by rw [← unhide HKE1]; exact hb)⟩
  go_upto_region 3 with (first
    | (go_at_call 15; refine (unhide X2).mono ?_; rintro e W2 ⟨gx, cx, rfl, hle, hb1⟩; clear X2; have HLX : Hid (LI W2 k1 W2.heap.size a gx cx) := ⟨hle, hle.blk.2⟩; have HK2 : Hid (k1 ≤ W2.heap.size) := Nat.le_trans hle.blk.1 (Nat.le_of_lt hle.blk.2); replace HOW := hide (unhide HBK1 _ hb1).2; replace HBX := hide (unhide HBK1 _ hb1).1; clear hb1 hle)
    | fail)
  clear HBK1 HKE1
  obtain ⟨k2, hk2⟩ : ∃ k, k = W2.heap.size := ⟨_, rfl⟩
  have X3 := hide (lentD (unhide EB) W2 (unhide HKB _ (unhide HBX)))
  have HBK2 : Hid (∀ W' : World, Below k2 W2 W' → Below N u W' ∧ In W' N k1 m xw cw ∧ LI W' k1 k2 a gx cx) := fun W' hb => by rw [hk2] at hb ⊢; exact ⟨unhide HUP _ _ (unhide HBX) hb, (unhide HOW).below hb, (unhide HLX).below hb⟩
  rw [← hk2] at HK2 X3
  clear hk2 HLX
  go_upto_region 4 with (first
    | (go_at_call 15; refine (unhide X3).mono ?_; rintro e W3 ⟨gy, cy, rfl, hle, hb1⟩; clear X3; have HLY : Hid (LI W3 k2 W3.heap.size b gy cy) := ⟨hle, hle.blk.2⟩; have HK3 : Hid (k2 ≤ W3.heap.size) := Nat.le_trans hle.blk.1 (Nat.le_of_lt hle.blk.2); have HLX := hide (unhide HBK2 _ hb1).2.2; replace HOW := hide (unhide HBK2 _ hb1).2.1; replace HBX := hide (unhide HBK2 _ hb1).1; clear hb1 hle)
    | fail)
  clear HBK2
  obtain ⟨k3, hk3⟩ : ∃ k, k = W3.heap.size := ⟨_, rfl⟩
  have X4 := hide (maxP (unhide HMR) (unhide EM) (unhide EA) (unhide EB) W3 (unhide HLX).le.da (unhide HLY).le.da)
  have HBK3 : Hid (∀ W' : World, Below k3 W3 W' → Below N u W' ∧ In W' N k1 m xw cw ∧ LI W' k1 k2 a gx cx ∧ LI W' k2 k3 b gy cy) := fun W' hb => by rw [hk3] at hb ⊢; exact ⟨unhide HUP _ _ (unhide HBX) hb, (unhide HOW).below hb, (unhide HLX).below hb, (unhide HLY).below hb⟩
  rw [← hk3] at HK3 X4
  have HZ3 : Hid (∀ W' : World, Below k3 W3 W' → k3 ≤ W'.heap.size) := fun W' hb => by rw [hk3]; exact hb.size
  clear hk3 HLY
  go_upto_region 5 with (first
    | (go_at_call 20; refine (unhide X4).mono ?_; rintro e W4 ⟨xm, cm, rfl, hi, hb1⟩; clear X4; have HOM := hide hi; have HK4 := hide (unhide HZ3 _ hb1); have HLY := hide (unhide HBK3 _ hb1).2.2.2; replace HLX := hide (unhide HBK3 _ hb1).2.2.1; replace HOW := hide (unhide HBK3 _ hb1).2.1; replace HBX := hide (unhide HBK3 _ hb1).1; clear hb1 hi)
    | fail)
  clear HBK3 HZ3
  obtain ⟨k4, hk4⟩ : ∃ k, k = W4.heap.size := ⟨_, rfl⟩
  have X5 := hide (maxP (unhide HMR) (unhide EM) (unhide EA) (unhide EB) W4 (unhide HLX).le.da (unhide HLY).le.da)
  have HBK4 : Hid (∀ W' : World, Below k4 W4 W' → Below N u W' ∧ In W' N k1 m xw cw ∧ LI W' k1 k2 a gx cx ∧ LI W' k2 k3 b gy cy ∧ In W' k3 k4 m xm cm) := fun W' hb => by rw [hk4] at hb ⊢; exact ⟨unhide HUP _ _ (unhide HBX) hb, (unhide HOW).below hb, (unhide HLX).below hb, (unhide HLY).below hb, (unhide HOM).below hb⟩
  rw [← hk4] at HK4 X5
  have HZ4 : Hid (∀ W' : World, Below k4 W4 W' → k4 ≤ W'.heap.size) := fun W' hb => by rw [hk4]; exact hb.size
  clear hk4 HOM
  go_upto_region 6 with (first
    | (go_at_call 20; refine (unhide X5).mono ?_; rintro e W5 ⟨xn, cn, rfl, hi, hb1⟩; clear X5; have HON := hide hi; have HK5 := hide (unhide HZ4 _ hb1); have HOM := hide (unhide HBK4 _ hb1).2.2.2.2; replace HLY := hide (unhide HBK4 _ hb1).2.2.2.1; replace HLX := hide (unhide HBK4 _ hb1).2.2.1; replace HOW := hide (unhide HBK4 _ hb1).2.1; replace HBX := hide (unhide HBK4 _ hb1).1; clear hb1 hi)
    | fail)
  clear HBK4 HZ4
  obtain ⟨k5, hk5⟩ : ∃ k, k = W5.heap.size := ⟨_, rfl⟩
  rw [← hk5] at HK5 HON
  clear hk5
  have HKK : Hid (N ≤ k1 ∧ k1 ≤ k2 ∧ k2 ≤ k3 ∧ k3 ≤ k4 ∧ k4 ≤ k5) := ⟨unhide HK1, unhide HK2, unhide HK3, unhide HK4, unhide HK5⟩
  clear HK1 HK2 HK3 HK4 HK5
  have X6 := hide (krSame rfl (unhide EM) (unhide EM) ((unhide HOM).own.da (unhide HMF)) ((unhide HOW).own.da (unhide HMF)))
  go_upto_region 8 with (first
    | (go_at_call_of 21 (Value.slice xm nm cm); have _t := X6; refine (unhide X6).mono ?_; rintro e W6 ⟨rfl, hb1⟩; clear X6 _t; replace HBX := hide (unhide HUP _ _ (unhide HBX) hb1); replace HOW := hide ((unhide HOW).below hb1); replace HLX := hide ((unhide HLX).below hb1); replace HLY := hide ((unhide HLY).below hb1); replace HOM := hide ((unhide HOM).below hb1); replace HON := hide ((unhide HON).below hb1); clear hb1; have X7 := hide (krSame rfl (unhide EM) (unhide EM) ((unhide HON).own.da (unhide HMF)) ((unhide HOW).own.da (unhide HMF))))
    | (go_at_call_of 21 (Value.slice xn nm cn); have _t := X7; refine (unhide X7).mono ?_; rintro e W7 ⟨rfl, hb1⟩; clear X7 _t; replace HBX := hide (unhide HUP _ _ (unhide HBX) hb1); replace HOW := hide ((unhide HOW).below hb1); replace HLX := hide ((unhide HLX).below hb1); replace HLY := hide ((unhide HLY).below hb1); replace HOM := hide ((unhide HOM).below hb1); replace HON := hide ((unhide HON).below hb1); clear hb1; have X8 := hide (keptD (unhide EA) W7 (unhide HLX).le (unhide HKA _ (unhide HBX))))
    | (go_at_call_of 17 (Value.slice xa na ca); have _t := X8; refine (unhide X8).mono ?_; rintro e W8 ⟨rfl, hb1⟩; clear X8 _t; replace HBX := hide (unhide HUP _ _ (unhide HBX) hb1); replace HOW := hide ((unhide HOW).below hb1); replace HLX := hide ((unhide HLX).below hb1); replace HLY := hide ((unhide HLY).below hb1); replace HOM := hide ((unhide HOM).below hb1); replace HON := hide ((unhide HON).below hb1); clear hb1; have X9 := hide (keptD (unhide EB) W8 (unhide HLY).le (unhide HKB _ (unhide HBX))))
    | (go_at_call 17; have _t := X9; refine (unhide X9).mono ?_; rintro e W9 ⟨rfl, hb1⟩; clear X9 _t; replace HBX := hide (unhide HUP _ _ (unhide HBX) hb1); replace HOW := hide ((unhide HOW).below hb1); replace HLX := hide ((unhide HLX).below hb1); replace HLY := hide ((unhide HLY).below hb1); replace HOM := hide ((unhide HOM).below hb1); replace HON := hide ((unhide HON).below hb1); clear hb1)
    | fail)
  have X10 := hide (spoilG (unhide HMF).2 (unhide EM) (unhide HOM))
  have HMB : Hid (∀ x, xm = some x → k3 ≤ x.block ∧ x.block < k4) := fun x hx => ⟨((unhide HOM).own.blkx x hx).1, (unhide HOM).lt x hx⟩
  go_upto_region 9 with (first
    | (go_at_call 22; refine (unhide X10).mono ?_; rintro e W10 ⟨rfl, hsp, l2, hl2, hi⟩; clear X10; replace HBX := hide (unhide HUS _ _ _ (unhide HBX) hsp (fun x hx => by have q1 := unhide HMB x hx; have q2 := unhide HKK; omega)); replace HOW := hide ((unhide HOW).sp hsp (fun x hx => by have q1 := unhide HMB x hx; have q2 := unhide HKK; omega)); replace HLX := hide ((unhide HLX).sp hsp (fun x hx => by have q1 := unhide HMB x hx; have q2 := unhide HKK; omega)); replace HLY := hide ((unhide HLY).sp hsp (fun x hx => by have q1 := unhide HMB x hx; have q2 := unhide HKK; omega)); replace HON := hide ((unhide HON).sp hsp (fun x hx => by have q1 := unhide HMB x hx; have q2 := unhide HKK; omega)); have HL2 := hide hl2; replace HOM := hide hi; clear hsp hl2 hi)
    | fail)
  have X11 : Hid (Calls Try.prog 23 #[.slice xm nm cm, .int .u64 4] W10 fun e u' => ∃ xo nn cc, e = .returned (.slice xo nn cc) ∧ nn = nm + 70 ∧ Sp W10 u' xm) := lGrown 4 (by decide) l2 nm (unhide HL2) (unhide HNM) xm cm 0 W10 (Nat.zero_le _) (own_down (unhide HOM).own (Nat.zero_le _))
  go_upto_region 10 with (first
    | (go_at_call 23; refine (unhide X11).mono ?_; rintro e W11 ⟨xp, np, cp, rfl, hnp, hsp⟩; clear X11; replace HBX := hide (unhide HUS _ _ _ (unhide HBX) hsp (fun x hx => by have q1 := unhide HMB x hx; have q2 := unhide HKK; omega)); replace HOW := hide ((unhide HOW).sp hsp (fun x hx => by have q1 := unhide HMB x hx; have q2 := unhide HKK; omega)); replace HLX := hide ((unhide HLX).sp hsp (fun x hx => by have q1 := unhide HMB x hx; have q2 := unhide HKK; omega)); replace HLY := hide ((unhide HLY).sp hsp (fun x hx => by have q1 := unhide HMB x hx; have q2 := unhide HKK; omega)); replace HON := hide ((unhide HON).sp hsp (fun x hx => by have q1 := unhide HMB x hx; have q2 := unhide HKK; omega)); have hnpi : (nm : Int) + 70 = (np : Int) := (by omega); clear hsp hnp HOM)
    | fail)
  clear HMB HL2
  have X12 := hide (krSame rfl (unhide EM) (unhide EM) ((unhide HON).own.da (unhide HMF)) ((unhide HOW).own.da (unhide HMF)))
  go_upto_region 12 with (first
    | (go_at_call 21; have _t := X12; refine (unhide X12).mono ?_; rintro e W12 ⟨rfl, hb1⟩; clear X12 _t; replace HBX := hide (unhide HUP _ _ (unhide HBX) hb1); replace HOW := hide ((unhide HOW).below hb1); replace HLX := hide ((unhide HLX).below hb1); replace HLY := hide ((unhide HLY).below hb1); replace HON := hide ((unhide HON).below hb1); clear hb1; have X13 := hide (keptD (unhide EA) W12 (unhide HLX).le (unhide HKA _ (unhide HBX))))
    | (go_at_call_of 17 (Value.slice xa na ca); have _t := X13; refine (unhide X13).mono ?_; rintro e W13 ⟨rfl, hb1⟩; clear X13 _t; replace HBX := hide (unhide HUP _ _ (unhide HBX) hb1); replace HOW := hide ((unhide HOW).below hb1); replace HLX := hide ((unhide HLX).below hb1); replace HLY := hide ((unhide HLY).below hb1); replace HON := hide ((unhide HON).below hb1); clear hb1; have X14 := hide (keptD (unhide EB) W13 (unhide HLY).le (unhide HKB _ (unhide HBX))))
    | (go_at_call 17; have _t := X14; refine (unhide X14).mono ?_; rintro e W14 ⟨rfl, hb1⟩; clear X14 _t; replace HBX := hide (unhide HUP _ _ (unhide HBX) hb1); replace HOW := hide ((unhide HOW).below hb1); replace HLX := hide ((unhide HLX).below hb1); replace HLY := hide ((unhide HLY).below hb1); replace HON := hide ((unhide HON).below hb1); clear hb1)
    | fail)
  clear hnpi
  have X15 := hide (turnedD (unhide EA) W14 (unhide HKA _ (unhide HBX)))
  have HQHLX : Hid (k1 ≤ gx ∧ gx < k2) := ⟨(unhide HLX).le.blk.1, (unhide HLX).lt⟩
  have HQHLY : Hid (k2 ≤ gy ∧ gy < k3) := ⟨(unhide HLY).le.blk.1, (unhide HLY).lt⟩
  go_upto_region 13 with (first
    | (go_at_call 18; refine (unhide X15).mono ?_; rintro e W15 ⟨xo7, cc7, rfl, hd7, hb1⟩; clear X15; replace HBX := hide (unhide HUP _ _ (unhide HBX) hb1); replace HOW := hide ((unhide HOW).below hb1); replace HLX := hide ((unhide HLX).below hb1); replace HLY := hide ((unhide HLY).below hb1); replace HON := hide ((unhide HON).below hb1); have HD7 := hide hd7; clear hb1 hd7)
    | ((with_reducible refine wpList_copyD (by rfl) (.tmp 99) (.tmp 101) (by rfl) (some 102) (by rfl) k1 a (trn a) gx cx na (unhide EA) xo7 cc7 (by with_unfolding_all rfl) (by with_unfolding_all rfl) (unhide HLX).le (unhide HD7).toDv (trn_len a) (unhide HD7).fits ?_); intro W16 kk HL8 HU8; simp only [Act.put, List.setIfInBounds_toArray, List.set_cons_zero, List.set_cons_succ]; have hsp := (unhide HU8).sp; replace HBX := hide (unhide HUS _ _ _ (unhide HBX) hsp (fun x hx => by have q1 : x.block = gx := (by cases hx; rfl); have q2 := unhide HKK; have q3 := unhide HQHLX; omega)); replace HOW := hide ((unhide HOW).sp hsp (fun x hx => by have q1 : x.block = gx := (by cases hx; rfl); have q2 := unhide HKK; have q3 := unhide HQHLX; omega)); replace HLY := hide ((unhide HLY).sp hsp (fun x hx => by have q1 : x.block = gx := (by cases hx; rfl); have q2 := unhide HKK; have q3 := unhide HQHLX; omega)); replace HON := hide ((unhide HON).sp hsp (fun x hx => by have q1 : x.block = gx := (by cases hx; rfl); have q2 := unhide HKK; have q3 := unhide HQHLX; omega)); replace HLX : Hid (LI W16 k1 k2 (trn a) gx cx) := ⟨unhide HL8, (unhide HQHLX).2⟩; clear HD7 HL8 HU8 hsp)
    | fail)
  have X16 := hide (turnedD (unhide EB) W16 (unhide HKB _ (unhide HBX)))
  go_upto_region 14 with (first
    | (go_at_call 18; refine (unhide X16).mono ?_; rintro e W17 ⟨xo7, cc7, rfl, hd7, hb1⟩; clear X16; replace HBX := hide (unhide HUP _ _ (unhide HBX) hb1); replace HOW := hide ((unhide HOW).below hb1); replace HLX := hide ((unhide HLX).below hb1); replace HLY := hide ((unhide HLY).below hb1); replace HON := hide ((unhide HON).below hb1); have HD7 := hide hd7; clear hb1 hd7)
    | ((with_reducible refine wpList_copyD (by rfl) (.tmp 103) (.tmp 105) (by rfl) (some 106) (by rfl) k2 b (trn b) gy cy nb (unhide EB) xo7 cc7 (by with_unfolding_all rfl) (by with_unfolding_all rfl) (unhide HLY).le (unhide HD7).toDv (trn_len b) (unhide HD7).fits ?_); intro W18 kk HL8 HU8; simp only [Act.put, List.setIfInBounds_toArray, List.set_cons_zero, List.set_cons_succ]; have hsp := (unhide HU8).sp; replace HBX := hide (unhide HUS _ _ _ (unhide HBX) hsp (fun x hx => by have q1 : x.block = gy := (by cases hx; rfl); have q2 := unhide HKK; have q3 := unhide HQHLY; omega)); replace HOW := hide ((unhide HOW).sp hsp (fun x hx => by have q1 : x.block = gy := (by cases hx; rfl); have q2 := unhide HKK; have q3 := unhide HQHLY; omega)); replace HLX := hide ((unhide HLX).sp hsp (fun x hx => by have q1 : x.block = gy := (by cases hx; rfl); have q2 := unhide HKK; have q3 := unhide HQHLY; omega)); replace HON := hide ((unhide HON).sp hsp (fun x hx => by have q1 : x.block = gy := (by cases hx; rfl); have q2 := unhide HKK; have q3 := unhide HQHLY; omega)); replace HLY : Hid (LI W18 k2 k3 (trn b) gy cy) := ⟨unhide HL8, (unhide HQHLY).2⟩; clear HD7 HL8 HU8 hsp)
    | fail)
  have X17 := hide (turnedD (unhide EA) W18 (unhide HKA _ (unhide HBX)))
  go_upto_region 15 with (first
    | (go_at_call_of 18 (Value.slice xa na ca); have _t := X17; refine (unhide X17).mono ?_; rintro e W19 ⟨xt1, ct1, rfl, hd7, hb1⟩; clear X17 _t; replace HBX := hide (unhide HUP _ _ (unhide HBX) hb1); replace HOW := hide ((unhide HOW).below hb1); replace HLX := hide ((unhide HLX).below hb1); replace HLY := hide ((unhide HLY).below hb1); replace HON := hide ((unhide HON).below hb1); have HT1 := hide hd7; clear hb1 hd7; have X18 := hide (turnedD (unhide EB) W19 (unhide HKB _ (unhide HBX))))
    | (go_at_call 18; refine (unhide X18).mono ?_; rintro e W20 ⟨xt2, ct2, rfl, hd7, hb1⟩; clear X18; replace HBX := hide (unhide HUP _ _ (unhide HBX) hb1); replace HOW := hide ((unhide HOW).below hb1); replace HLX := hide ((unhide HLX).below hb1); replace HLY := hide ((unhide HLY).below hb1); replace HON := hide ((unhide HON).below hb1); replace HT1 := hide ((unhide HT1).below hb1); have X19 := hide (maxR (unhide HMR2) (unhide EM2) (unhide EA2) (unhide EB2) W20 (unhide HT1) hd7); have HS7 : Hid (gx < W20.heap.size ∧ gy < W20.heap.size) := ⟨(unhide HLX).le.blk.2, (unhide HLY).le.blk.2⟩; clear hb1 hd7 HT1)
    | (go_at_call 19; refine (unhide X19).mono ?_; rintro e W21 ⟨xo, co, rfl, hi, hb1⟩; clear X19; replace HBX := hide (unhide HUP _ _ (unhide HBX) hb1); replace HOW := hide ((unhide HOW).below hb1); replace HLX := hide ((unhide HLX).below hb1); replace HLY := hide ((unhide HLY).below hb1); replace HON := hide ((unhide HON).below hb1); have HOO := hide hi; clear hb1 hi)
    | fail)
  have HS8 : Hid (gx < W21.heap.size ∧ gy < W21.heap.size) := ⟨(unhide HLX).le.blk.2, (unhide HLY).le.blk.2⟩
  have X20 := hide (maxP (unhide HMR2) (unhide EM2) (unhide EA2) (unhide EB2) W21 (unhide HLX).le.da (unhide HLY).le.da)
  go_upto_region 16 with (first
    | (go_at_call 20; refine (unhide X20).mono ?_; rintro e W22 ⟨xq, cq, rfl, hi, hb1⟩; clear X20; replace HBX := hide (unhide HUP _ _ (unhide HBX) hb1); replace HOW := hide ((unhide HOW).below hb1); replace HLX := hide ((unhide HLX).below hb1); replace HLY := hide ((unhide HLY).below hb1); replace HON := hide ((unhide HON).below hb1); replace HOO := hide ((unhide HOO).below hb1); have HOQ := hide hi; clear hb1 hi)
    | fail)
  have X21 := hide (krSame rfl (unhide EM2) (unhide EM2) ((unhide HOQ).own.da (unhide HMF2)) ((unhide HOO).own.da (unhide HMF2)))
  go_upto_region 18 with (first
    | (go_at_call_of 21 (Value.slice xq nm2 cq); have _t := X21; refine (unhide X21).mono ?_; rintro e W23 ⟨rfl, hb1⟩; clear X21 _t; replace HBX := hide (unhide HUP _ _ (unhide HBX) hb1); replace HOW := hide ((unhide HOW).below hb1); replace HLX := hide ((unhide HLX).below hb1); replace HLY := hide ((unhide HLY).below hb1); replace HON := hide ((unhide HON).below hb1); replace HOO := hide ((unhide HOO).below hb1); replace HOQ := hide ((unhide HOQ).below hb1); clear hb1; have X22 := hide (krSame rfl (unhide EM) (unhide EM) ((unhide HON).own.da (unhide HMF)) ((unhide HOW).own.da (unhide HMF))))
    | (go_at_call 21; have _t := X22; refine (unhide X22).mono ?_; rintro e W24 ⟨rfl, hb1⟩; clear X22 _t; replace HBX := hide (unhide HUP _ _ (unhide HBX) hb1); replace HOW := hide ((unhide HOW).below hb1); replace HLX := hide ((unhide HLX).below hb1); replace HLY := hide ((unhide HLY).below hb1); replace HON := hide ((unhide HON).below hb1); replace HOO := hide ((unhide HOO).below hb1); replace HOQ := hide ((unhide HOQ).below hb1); clear hb1)
    | fail)
  have X23 : Hid (Calls Try.prog 22 #[.slice (some ⟨gx, 0, none⟩) na cx, .int .u64 5] W24 fun e W' => e = .returned (.tuple #[]) ∧ Sp W24 W' (some ⟨gx, 0, none⟩)) := spoilL (x := 5) (by decide) (unhide EA2) (unhide HLX)
  go_upto_region 19 with (first
    | (go_at_call 22; refine (unhide X23).mono ?_; rintro e W25 ⟨rfl, hsp⟩; clear X23; replace HBX := hide (unhide HUS _ _ _ (unhide HBX) hsp (fun x hx => by have q1 : x.block = gx := (by cases hx; rfl); have q2 := unhide HKK; have q3 := unhide HQHLX; have q4 := unhide HS7; have q5 := unhide HS8; omega)); replace HOW := hide ((unhide HOW).sp hsp (fun x hx => by have q1 : x.block = gx := (by cases hx; rfl); have q2 := unhide HKK; have q3 := unhide HQHLX; have q4 := unhide HS7; have q5 := unhide HS8; omega)); replace HLY := hide ((unhide HLY).sp hsp (fun x hx => by have q1 : x.block = gx := (by cases hx; rfl); have q2 := unhide HKK; have q3 := unhide HQHLX; have q4 := unhide HS7; have q5 := unhide HS8; omega)); replace HON := hide ((unhide HON).sp hsp (fun x hx => by have q1 : x.block = gx := (by cases hx; rfl); have q2 := unhide HKK; have q3 := unhide HQHLX; have q4 := unhide HS7; have q5 := unhide HS8; omega)); replace HOO := hide ((unhide HOO).sp hsp (fun x hx => by have q1 : x.block = gx := (by cases hx; rfl); have q2 := unhide HKK; have q3 := unhide HQHLX; have q4 := unhide HS7; have q5 := unhide HS8; omega)); replace HOQ := hide ((unhide HOQ).sp hsp (fun x hx => by have q1 : x.block = gx := (by cases hx; rfl); have q2 := unhide HKK; have q3 := unhide HQHLX; have q4 := unhide HS7; have q5 := unhide HS8; omega)); clear hsp HLX)
    | fail)
  have X24 : Hid (Calls Try.prog 22 #[.slice (some ⟨gy, 0, none⟩) nb cy, .int .u64 6] W25 fun e W' => e = .returned (.tuple #[]) ∧ Sp W25 W' (some ⟨gy, 0, none⟩)) := spoilL (x := 6) (by decide) (unhide EB2) (unhide HLY)
  go_upto_region 20 with (first
    | (go_at_call 22; refine (unhide X24).mono ?_; rintro e W26 ⟨rfl, hsp⟩; clear X24; replace HBX := hide (unhide HUS _ _ _ (unhide HBX) hsp (fun x hx => by have q1 : x.block = gy := (by cases hx; rfl); have q2 := unhide HKK; have q3 := unhide HQHLY; have q4 := unhide HS7; have q5 := unhide HS8; omega)); replace HOW := hide ((unhide HOW).sp hsp (fun x hx => by have q1 : x.block = gy := (by cases hx; rfl); have q2 := unhide HKK; have q3 := unhide HQHLY; have q4 := unhide HS7; have q5 := unhide HS8; omega)); replace HON := hide ((unhide HON).sp hsp (fun x hx => by have q1 : x.block = gy := (by cases hx; rfl); have q2 := unhide HKK; have q3 := unhide HQHLY; have q4 := unhide HS7; have q5 := unhide HS8; omega)); replace HOO := hide ((unhide HOO).sp hsp (fun x hx => by have q1 : x.block = gy := (by cases hx; rfl); have q2 := unhide HKK; have q3 := unhide HQHLY; have q4 := unhide HS7; have q5 := unhide HS8; omega)); replace HOQ := hide ((unhide HOQ).sp hsp (fun x hx => by have q1 : x.block = gy := (by cases hx; rfl); have q2 := unhide HKK; have q3 := unhide HQHLY; have q4 := unhide HS7; have q5 := unhide HS8; omega)); clear hsp HLY)
    | fail)
  have X25 := hide (krSame rfl (unhide EM) (unhide EM) ((unhide HON).own.da (unhide HMF)) ((unhide HOW).own.da (unhide HMF)))
  go_wp2_with (first
    | (go_at_call_of 21 (Value.slice xn nm cn); have _t := X25; refine (unhide X25).mono ?_; rintro e W27 ⟨rfl, hb1⟩; clear X25 _t; replace HBX := hide (unhide HUP _ _ (unhide HBX) hb1); replace HOW := hide ((unhide HOW).below hb1); replace HON := hide ((unhide HON).below hb1); replace HOO := hide ((unhide HOO).below hb1); replace HOQ := hide ((unhide HOQ).below hb1); clear hb1; have X26 := hide (krSame rfl (unhide EM2) (unhide EM2) ((unhide HOQ).own.da (unhide HMF2)) ((unhide HOO).own.da (unhide HMF2))))
    | (go_at_call 21; have _t := X26; refine (unhide X26).mono ?_; rintro e W28 ⟨rfl, hb1⟩; clear X26 _t; replace HBX := hide (unhide HUP _ _ (unhide HBX) hb1); replace HOW := hide ((unhide HOW).below hb1); replace HON := hide ((unhide HON).below hb1); replace HOO := hide ((unhide HOO).below hb1); replace HOQ := hide ((unhide HOQ).below hb1); clear hb1)
    | fail)
  go_ret
  exact ⟨rfl, unhide HBX⟩
end Go.Proofs.Ytajflgonhomkfaa
