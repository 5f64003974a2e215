/- Sketches: the item of an entry, of the program. -/
import Derived.Test.YtopabadnbelegaaQSkl
import Derived.Test.YtopabadnbelegaaQSgc
namespace Go.Proofs.Ytopabadnbelegaa.K
open Go.RowKit Go.Lib
open Go.Proofs.Ytopabadnbelegaa.S (En plN plN_lt textB Wn wnNew wnTold)
/-- the first bytes of a text's digest, as a number -/
def hdN (l : List UInt8) (n : Nat) : Nat := W.numB ((D.Sha.of l).take n)
theorem hdN_lt (l : List UInt8) (n : Nat) (hn : n ≤ 32) : hdN l n < 256 ^ n := by
  unfold hdN
  have h := W.numB_lt ((D.Sha.of l).take n)
  rw [List.length_take, D.Sha.of_length, Nat.min_eq_left hn] at h
  exact h
theorem fix_cut (T : ByteArray) (n : Nat) (h1 : 1 ≤ n) (h8 : n ≤ 8) : (W.fixS (D.cutS T n) 0 0 n).1 = hdN T.data.toList n := by
  have hz : (D.cutS T n).size = n := by
    show ((D.Sha.of T.data.toList).take n).toArray.size = n
    rw [List.size_toArray, List.length_take, D.Sha.of_length]
    omega
  have hr : W.rawS (D.cutS T n) 0 0 n = ((D.cutS T n).extract 0 (0 + n), 0 + n, 0) := by
    unfold W.rawS
    rw [if_neg (by decide), if_neg (by omega), if_neg (by rw [hz]; omega), Int.toNat_natCast]
  unfold W.fixS
  rw [if_neg (by omega), hr]
  show W.numB ((D.cutS T n).extract 0 (0 + n)).data.toList = _
  unfold hdN
  congr 1
  rw [ByteArray.data_extract, Array.toList_extract]
  simp [D.cutS, List.extract, List.take_take]
set_option maxRecDepth 100000 in
set_option maxHeartbeats 2000000 in
theorem kHead (T : ByteArray) (n : Nat) (hT : T.size ≤ 140737488355328) (h1 : 1 ≤ n) (h8 : n ≤ 8) (u : World) : Calls Try.prog 35 #[.string T, .int .i64 (n : Int)] u fun e u' => e = .returned (.int .u64 (hdN T.data.toList n : Nat)) ∧ Below u.heap.size u u' := by
  have HC := hide (D.dCut T n hT h1 (by omega) u)
  have hz : (D.cutS T n).size ≤ 281474976710656 := by
    show ((D.Sha.of T.data.toList).take n).toArray.size ≤ _
    rw [List.size_toArray, List.length_take]
    omega
  have hf := fix_cut T n h1 h8
  obtain ⟨r, hr⟩ : ∃ r, r = hdN T.data.toList n := ⟨_, rfl⟩
  rw [← hr] at hf ⊢
  generalize D.cutS T n = C at *
  have HF := hide hf
  have HZ := hide hz
  clear hf hz hr hT h1 h8
  go_enter Try.func35, Try.ntmps35
  go_wp2_with (first
    | (go_at_call 46; refine (unhide HC).mono ?_; rintro e W1 ⟨rfl, hb⟩; have HB := hide hb; have HN := hide (W.rNew C W1); clear hb HC)
    | (go_at_call 47; refine (unhide HN).mono ?_; rintro e W2 ⟨rfl, hw⟩; have HB2 : Hid (Below u.heap.size u W2) := (by rw [hw]; exact (unhide HB).alloc (unhide HB).size _); have HR : Hid (W.Rd W2 W1.heap.size C 0 0) := (by rw [hw]; exact W.Rd.new C W1 _ (unhide HZ)); have HX := hide (W.rFixed W1.heap.size C 0 0 n W2 (unhide HR)); have HSZ : Hid (u.heap.size ≤ W1.heap.size) := (unhide HB).size; clear hw HN)
    | (go_at_call 48; refine (unhide HX).mono ?_; rintro e W3 ⟨rfl, hrt⟩; have HRT := hide hrt; clear hrt HX)
    | fail)
  go_ret
  refine ⟨by rw [unhide HF]; rfl, ?_⟩
  exact (unhide HB2).trans (((unhide HRT).2.below (unhide HB2).size (unhide HSZ) (unhide HSZ)))
theorem hdN_two (l : List UInt8) : hdN l 2 / 16 = ((D.Sha.of l).getD 0 0).toNat * 16 + ((D.Sha.of l).getD 1 0).toNat / 16 := by
  unfold hdN
  obtain ⟨a, b, t, h⟩ : ∃ a b t, D.Sha.of l = a :: b :: t := by
    have hl := D.Sha.of_length l
    match D.Sha.of l, hl with
    | a :: b :: t, _ => exact ⟨a, b, t, rfl⟩
  rw [h]
  simp [W.numB]
  omega
set_option maxRecDepth 100000 in
set_option maxHeartbeats 2000000 in
theorem kSegOf (k : ByteArray) (hk : k.size ≤ 1099511627776) (u : World) : Calls Try.prog 34 #[.string k] u fun e u' => e = .returned (.int .u64 (plN k : Int)) ∧ Below u.heap.size u u' := by
  obtain ⟨T, hT⟩ : ∃ T : ByteArray, T = ⟨#[75]⟩ ++ k := ⟨_, rfl⟩
  have hTd : T.data.toList = 75 :: k.data.toList := by
    rw [hT, ByteArray.data_append, Array.toList_append]
    rfl
  have hTs : T.size ≤ 140737488355328 := by
    have h : T.size = T.data.toList.length := rfl
    rw [h, hTd]
    have h2 : k.data.toList.length = k.size := rfl
    simp only [List.length_cons, h2]
    omega
  have hcat : (Op.stringOp .add (⟨#[75]⟩ : ByteArray) k).run Try.prog u = .ok (.string T) u := by
    rw [hT]
    have h1 : ((⟨#[75]⟩ : ByteArray).size : Int) = 1 := rfl
    unfold Op.stringOp
    simp [h1]
    omega
  have HH := hide (kHead T 2 hTs (by decide) (by decide) u)
  have hq := hdN_two T.data.toList
  have hp : hdN T.data.toList 2 / 16 = plN k := by rw [hq, hTd]; rfl
  rw [← hp]
  obtain ⟨q, hq⟩ : ∃ q, q = hdN T.data.toList 2 := ⟨_, rfl⟩
  rw [← hq] at HH ⊢
  have hdv : (q : Int) / 16 = ((q / 16 : Nat) : Int) := (Int.natCast_ediv q 16).symm
  clear hq hp hTd hTs hT
  generalize q / 16 = z at *
  go_enter Try.func34, Try.ntmps34
  go_wp2_with (first
    | (go_at_call 35; refine (unhide HH).mono ?_; rintro e W1 ⟨rfl, hb⟩; have HB := hide hb; clear hb HH)
    | fail)
  go_ret
  exact ⟨by rw [← hdv]; rfl, unhide HB⟩
def itemN (e : En) : Nat := plN e.1 * 281474976710656 + hdN (73 :: (textB e.1 ++ textB e.2)) 6
theorem itemN_lt (e : En) : itemN e < 1152921504606846976 := by
  unfold itemN
  have h1 := plN_lt e.1
  have h2 := hdN_lt (73 :: (textB e.1 ++ textB e.2)) 6 (by decide)
  simp only [Nat.reducePow] at h2
  omega
theorem or48 (p q : Nat) (hp : p < 4096) (hq : q < 281474976710656) : bits .or .u64 ((p * 281474976710656 : Nat) : Int) (q : Int) = ((p * 281474976710656 + q : Nat) : Int) := by
  rw [u64_or_nat _ _ (by omega) (by omega)]
  congr 1
  have := Nat.two_pow_add_eq_or_of_lt (i := 48) (b := q) hq p
  rw [Nat.mul_comm p 281474976710656]
  exact this.symm
theorem wnB {u w : World} {B a r : Nat} {bs : List UInt8} (h : Wn u w B a r bs) (v : Int) (h0 : 0 ≤ v) (h1 : v < 256) (hl : bs.length ≤ 140737488000000) : Calls Try.prog 32 #[.pointer (some ⟨a, 0, none⟩), .int .u8 v] w fun e w' => e = .returned (.tuple #[]) ∧ ∃ r', Wn u w' B a r' (bs ++ [UInt8.ofNat v.toNat]) :=
  (W.wByte a r bs v w h.wr h0 h1 (by omega)).mono fun e w' ⟨h1, r', hp⟩ => ⟨h1, r', h.put hp⟩
theorem wnTx {u w : World} {B a r : Nat} {bs : List UInt8} (h : Wn u w B a r bs) (s : ByteArray) (hl : bs.length ≤ 140737400000000) (hs : s.size ≤ 1048576) : Calls Try.prog 33 #[.pointer (some ⟨a, 0, none⟩), .string s] w fun e w' => e = .returned (.tuple #[]) ∧ ∃ r', Wn u w' B a r' (bs ++ textB s) :=
  (W.wText a r bs s w h.wr (by omega)).mono fun e w' ⟨h1, r', hp⟩ => ⟨h1, r', h.put hp⟩
theorem textB_len (s : ByteArray) (hs : s.size ≤ 1048576) : (textB s).length ≤ 1048600 := by
  unfold textB
  rw [List.length_append]
  have h3 := W.uintB_length 9 s.size
  have h4 : s.data.toList.length = s.size := rfl
  omega
set_option maxRecDepth 100000 in
set_option maxHeartbeats 4000000 in
theorem kItem (x : En) (h1 : x.1.size ≤ 1048576) (h2 : x.2.size ≤ 1048576) (u : World) : Calls Try.prog 14 #[.agg #[.string x.1, .string x.2]] u fun e u' => e = .returned (.int .u64 (itemN x : Int)) ∧ Below u.heap.size u u' := by
  obtain ⟨k, s⟩ := x
  replace h1 : k.size ≤ 1048576 := h1
  replace h2 : s.size ≤ 1048576 := h2
  obtain ⟨r, hr⟩ : ∃ r, r = itemN (k, s) := ⟨_, rfl⟩
  rw [← hr]
  have hr2 : r = plN k * 281474976710656 + hdN (73 :: (textB k ++ textB s)) 6 := hr
  have hp := plN_lt k
  have hh := hdN_lt (73 :: (textB k ++ textB s)) 6 (by decide)
  simp only [Nat.reducePow] at hh
  have ho := or48 (plN k) (hdN (73 :: (textB k ++ textB s)) 6) hp hh
  rw [← hr2] at ho
  have hl1 := textB_len k h1
  have hl2 := textB_len s h2
  have hx := heap_alloc_new u (.cells #[.string k, .string s] 36)
  have hb := (Below.refl u.heap.size u).alloc (Nat.le_refl _) (.cells #[.string k, .string s] 36)
  have hk0 : k.size ≤ 1099511627776 := Nat.le_trans h1 (by decide)
  have hHS := fun W => kSegOf k hk0 W
  have HSG := hide hHS
  have hTz : ((⟨(([] ++ [UInt8.ofNat (73 : Int).toNat]) ++ textB k ++ textB s).toArray⟩ : ByteArray)).size ≤ 140737488355328 := by
    show ((([] ++ [UInt8.ofNat (73 : Int).toNat]) ++ textB k ++ textB s).toArray).size ≤ _
    simp only [List.size_toArray, List.length_append, List.length_singleton, List.length_nil]
    omega
  have hhd : hdN (⟨(([] ++ [UInt8.ofNat (73 : Int).toNat]) ++ textB k ++ textB s).toArray⟩ : ByteArray).data.toList 6 = hdN (73 :: (textB k ++ textB s)) 6 := by
    congr 1
  have HHD := hide (fun W => kHead ⟨(([] ++ [UInt8.ofNat (73 : Int).toNat]) ++ textB k ++ textB s).toArray⟩ 6 hTz (by decide) (by decide) W)
  rw [hhd] at HHD
  have hsh : IntKind.u64.wrap ((plN k : Int) * 281474976710656) = ((plN k * 281474976710656 : Nat) : Int) := by rw [IntKind.wrap_u64]; omega
  clear hr hr2 hTz hhd hHS
  generalize hdN (73 :: (textB k ++ textB s)) 6 = q at *
  generalize plN k = p at *
  have HO : Hid (bits .or .u64 ((p : Int) * 281474976710656) (q : Int) = (r : Int)) := by show _ = _; rw [← ho, Int.natCast_mul]; rfl
  clear ho
  have H1 := hide h1
  have H2 := hide h2
  have HX := hide hx
  have HB := hide hb
  have HL1 := hide hl1
  have HL2 := hide hl2
  clear hx hb h1 h2 hp hh hl1 hl2
  have HW0 := hide (wnNew (u.alloc (.cells #[.string k, .string s] 36)))
  go_enter Try.func14, Try.ntmps14
  go_wp2_with (first
    | (go_at_call 31; refine (unhide HW0).mono ?_; rintro e W1 ⟨a, r1, rfl, hw⟩; have HW1 := hide hw; have HC1 := hide (wnB hw 73 (by decide) (by decide) (by simp)); clear hw HW0)
    | (go_at_call 32; refine (unhide HC1).mono ?_; rintro e W2 ⟨rfl, r2, hw⟩; have HW2 := hide hw; obtain ⟨c0, c1⟩ := S.box2 (S.box_below (unhide HX) hw.below); have HC2 := hide (wnTx hw k (by simp) (unhide H1)); clear hw HC1)
    | (go_at_call 33; refine (unhide HC2).mono ?_; rintro e W3 ⟨rfl, r3, hw⟩; have HW3 := hide hw; obtain ⟨d0, d1⟩ := S.box2 (S.box_below (unhide HX) hw.below); have HC3 := hide (wnTx hw s (by rw [List.length_append]; have := unhide HL1; simp; omega) (unhide H2)); clear hw HC2)
    | (go_at_call 33; refine (unhide HC3).mono ?_; rintro e W4 ⟨rfl, r4, hw⟩; have HW4 := hide hw; obtain ⟨e0, e1⟩ := S.box2 (S.box_below (unhide HX) hw.below); clear hw HC3)
    | (go_at_call 34; refine (unhide HSG _).mono ?_; rintro e W5 ⟨rfl, hb⟩; have HW5 := hide ((unhide HW4).belw hb); have HTO := hide (wnTold (unhide HW5)); clear hb HSG)
    | (go_at_call 36; refine (unhide HTO).mono ?_; rintro e wq ⟨rfl, hwq⟩; obtain rfl := hwq.symm; clear HTO)
    | (go_at_call 35; refine (unhide HHD _).mono ?_; rintro e W6 ⟨rfl, hb⟩; have HB6 := hide hb; clear hb HHD)
    | fail)
  go_ret
  exact ⟨by rw [← unhide HO]; rfl, (unhide HB).trans (((unhide HW5).below.trans ((unhide HB6).mono (unhide HW5).below.size)).mono (unhide HB).size)⟩
end Go.Proofs.Ytopabadnbelegaa.K
