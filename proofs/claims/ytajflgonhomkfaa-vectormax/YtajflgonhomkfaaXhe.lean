/- Vectors: the walk of VectorBytes. -/
import Derived.Test.YtajflgonhomkfaaXhd
namespace Go.Proofs.Ytajflgonhomkfaa
open Go.RowKit

theorem enc_list (l : List (Nat × Nat)) : ∃ (tl : List UInt8) (er : Int), encV l = (⟨tl.toArray⟩, er) ∧ tl.length ≤ 8388600 := by
  cases hok : V.okB l with
  | true =>
    refine ⟨vecB l, 0, enc_ok (V.okB_true.1 hok), ?_⟩
    have := vecB_len l (V.okB_true.1 hok).len
    omega
  | false => exact ⟨[], 100, by unfold encV; rw [hok]; rfl, by simp⟩
theorem catB (s rest : ByteArray) (h1 : s.size ≤ 140737488355328) (h2 : rest.size ≤ 140737488355328) (W : World) : (Op.stringOp .add s rest).run Try.prog W = .ok (.string ⟨(s.data.toList ++ rest.data.toList).toArray⟩) W := by
  obtain ⟨⟨x⟩⟩ := s
  obtain ⟨⟨y⟩⟩ := rest
  rw [run_string_add_sum W _ _ (by omega), ByteArray.mk_append_mk]
theorem sizeB (s rest : ByteArray) : (⟨(s.data.toList ++ rest.data.toList).toArray⟩ : ByteArray).size = s.size + rest.size := by
  obtain ⟨⟨x⟩⟩ := s
  obtain ⟨⟨y⟩⟩ := rest
  exact List.length_append
theorem put9 {l : List (Nat × Nat)} {ao : Option Addr} {c a r n : Nat} {u0 u : World} (en : n = l.length) {tl : List UInt8} {er : Int} (he : encV l = (⟨tl.toArray⟩, er)) (h : DAt u0 l ao) (hw : Wn u0 u u0.heap.size a r [9]) :
    Calls Try.prog 12 #[.pointer (some ⟨a, 0, none⟩), .slice ao n c] u fun e u' => e = .returned (.int .i64 er) ∧ ∃ r', Wn u0 u' u0.heap.size a r' (9 :: tl) := by
  subst en
  refine (vPut l ao c a r [9] u0 u h hw (by simp)).mono ?_
  rintro e u' ⟨r', h1, h2⟩
  cases hok : V.okB l with
  | true =>
    rw [enc_ok (V.okB_true.1 hok)] at he
    simp only [Prod.mk.injEq, ByteArray.mk.injEq] at he
    obtain ⟨ht, rfl⟩ := he
    have ht : vecB l = tl := by simpa using congrArg Array.toList ht
    obtain ⟨e1, e2⟩ := h1 hok
    rw [ht] at e2
    exact ⟨e1, r', e2⟩
  | false =>
    have h3 : encV l = (⟨#[]⟩, 100) := by unfold encV; rw [hok]; rfl
    rw [h3] at he
    simp only [Prod.mk.injEq, ByteArray.mk.injEq] at he
    obtain ⟨ht, rfl⟩ := he
    have ht : [] = tl := by simpa using congrArg Array.toList ht
    subst ht
    obtain ⟨e1, e2⟩ := h2 hok
    exact ⟨e1, r', e2⟩
theorem OwnD.blkx {w : World} {B : Nat} {l : List (Nat × Nat)} {ao : Option Addr} {c : Nat} (h : OwnD w B l ao c) : ∀ x, ao = some x → B ≤ x.block ∧ x.block < w.heap.size := by
  intro x hx
  subst hx
  exact World.ownsRow.lt h x.block rfl
theorem Sp.keep {u w : World} {ao bo : Option Addr} {B c : Nat} {l : List (Nat × Nat)} (h : Sp u w ao) (ho : OwnD u B l bo c) (hn : ∀ x y, ao = some x → bo = some y → y.block ≠ x.block) : OwnD w B l bo c :=
  own_keep ho fun g hg => by
    cases bo with
    | none => cases hg
    | some y => cases hg; exact h.block _ (ho.blkx y rfl).2 (fun x hx => hn x y hx rfl)
theorem dec_fits (s : ByteArray) : Fits (decV s).1 ∧ (decV s).1.length ≤ 64 := by
  rcases dec_cases s with ⟨l, h, ho, hf, _⟩ | h
  · rw [h]; exact ⟨hf, ho.len⟩
  · rw [h]; exact ⟨fun d hd => (by cases hd), Nat.zero_le _⟩
theorem takeL_fits (s : ByteArray) (p : Nat) (e : Int) : Fits (takeL s p e) ∧ (takeL s p e).length ≤ 64 := by
  unfold takeL
  split
  · exact tkV_fits s p e
  · exact ⟨fun d hd => (by cases hd), Nat.zero_le _⟩
theorem OwnD.da {w : World} {B : Nat} {l : List (Nat × Nat)} {ao : Option Addr} {c : Nat} (h : OwnD w B l ao c) (hf : Fits l ∧ l.length ≤ 64) : Da w l ao c := ⟨h.dv, hf.1, len_da (Nat.le_trans hf.2 (by decide))⟩
theorem decP {s : ByteArray} {m : List (Nat × Nat)} {d : Int} (hd : decV s = (m, d)) {n : Nat} (en : n = m.length) (hs : s.size ≤ 140737488355328) (W : World) : Calls Try.prog 29 #[.string s] W fun e W' => ∃ xm cm, e = .returned (.tuple #[.slice xm n cm, .int .i64 d]) ∧ OwnD W' W.heap.size m xm cm ∧ Below W.heap.size W W' := by
  have h := vDecode s W hs
  rw [hd] at h; subst en; exact h
theorem decR {s : ByteArray} {m : List (Nat × Nat)} {d : Int} (hd : decV s = (m, d)) {n : Nat} (en : n = m.length) (hs : s.size ≤ 140737488355328) (W : World) : Calls Try.prog 28 #[.string s] W fun e W' => ∃ xm cm, e = .returned (.tuple #[.slice xm n cm, .int .i64 d]) ∧ OwnD W' W.heap.size m xm cm ∧ Below W.heap.size W W' := by
  have h := rDecode s W hs
  rw [hd] at h; subst en; exact h
theorem takR {s : ByteArray} {e : Int} {L : List (Nat × Nat)} {E : Int} {q n a : Nat} (hL : takeL s 0 e = L) (hE : takeE s 0 e = E) (hq : (tkV s 0 e).2.1 = q) (en : n = L.length) (u : World) (h : W.Rd u a s 0 e) :
    Calls Try.prog 33 #[.pointer (some ⟨a, 0, none⟩)] u fun x u' => ∃ ao c, x = .returned (.slice ao n c) ∧ Tk u u' u.heap.size a s q E L ao c := by
  subst hL hE hq en; exact rTake a s 0 e u h
theorem takP {s : ByteArray} {e : Int} {L : List (Nat × Nat)} {E : Int} {q n a : Nat} (hL : takeL s 0 e = L) (hE : takeE s 0 e = E) (hq : (tkV s 0 e).2.1 = q) (en : n = L.length) (u : World) (h : W.Rd u a s 0 e) :
    Calls Try.prog 11 #[.pointer (some ⟨a, 0, none⟩)] u fun x u' => ∃ ao c, x = .returned (.slice ao n c) ∧ Tk u u' u.heap.size a s q E L ao c := by
  subst hL hE hq en; exact vTake a s 0 e u h
set_option maxRecDepth 100000 in
set_option maxHeartbeats 16000000 in
theorem bytes10_walk (v : List (Nat × Nat)) (xa : Option Addr) (ca : Nat) (s rest : ByteArray) (failed : Bool) (u : World) (h1 : Da u v xa ca) (hs1 : s.size ≤ 140737488355328) (hs2 : rest.size ≤ 140737488355328) :
    Calls Try.prog 6 #[.slice xa v.length ca, .string s, .string rest, .bool failed] u fun e u' => e = .returned (.bool true) ∧ Below u.heap.size u u' := by
  have H1 := hide h1
  obtain ⟨na, hna⟩ : ∃ n, n = v.length := ⟨_, rfl⟩
  rw [← hna]
  have EA := hide hna
  obtain ⟨tl, er, hen, htl⟩ := enc_list v
  obtain ⟨T, hT⟩ : ∃ T : ByteArray, T = ⟨tl.toArray⟩ := ⟨_, rfl⟩
  obtain ⟨T9, hT9⟩ : ∃ T : ByteArray, T = ⟨(9 :: tl).toArray⟩ := ⟨_, rfl⟩
  have HEN0 := hide hen
  have hen2 : encV v = (T, er) := by rw [hT]; exact hen
  have HEN := hide hen2
  have hcat9 : ∀ W, (Op.stringOp .add ⟨#[9]⟩ T).run Try.prog W = .ok (.string T9) W := by
    intro W; rw [hT, hT9]; exact catL [9] tl (by simp) (by omega) W
  have HT9 := hide hT9
  obtain ⟨sr, hsr⟩ : ∃ x : ByteArray, x = ⟨(s.data.toList ++ rest.data.toList).toArray⟩ := ⟨_, rfl⟩
  have hcat : ∀ W, (Op.stringOp .add s rest).run Try.prog W = .ok (.string sr) W := by
    intro W; rw [hsr]
    exact catB s rest hs1 hs2 W
  have HSR : Hid (sr.size ≤ 281474976710656) := by
    have e : sr.size = s.size + rest.size := by rw [hsr]; exact sizeB s rest
    show sr.size ≤ _
    omega
  have HS : Hid (s.size ≤ 140737488355328) := hs1
  obtain ⟨⟨m, d⟩, hmd⟩ : ∃ p : List (Nat × Nat) × Int, decV s = p := ⟨_, rfl⟩
  have HMD := hide hmd
  have HMF : Hid (Fits m ∧ m.length ≤ 64) := by have := dec_fits s; rw [hmd] at this; exact this
  obtain ⟨nm, hnm⟩ : ∃ n, n = m.length := ⟨_, rfl⟩
  have EM := hide hnm
  clear h1 hs1 hs2 hna hen hen2 hT hT9 hsr hmd hnm htl
  obtain ⟨N, hN⟩ : ∃ N, N = u.heap.size := ⟨_, rfl⟩
  have HN := hide hN
  rw [← hN]
  have HUP : Hid (∀ W W' : World, Below N u W → Below W.heap.size W W' → Below N u W') := fun W W' h1 h2 => h1.trans (h2.mono (by rw [hN]; exact h1.size))
  have HUQ : Hid (∀ W W' : World, Below N u W → Below N W W' → Below N u W') := fun W W' h1 h2 => h1.trans h2
  have HSZ : Hid (∀ W : World, Below N u W → N ≤ W.heap.size) := fun W h => by rw [hN]; exact h.size
  have HKV : Hid (∀ W : World, Below N u W → Da W v xa ca) := fun W h => (unhide H1).below (by rw [← hN]; exact h)
  have X1 := hide (krEncode T er (unhide HEN) (unhide EA) (unhide H1) u (Below.refl _ _))
  rw [← hN] at X1
  clear hN
  go_enter Try.func6, Try.ntmps6
  go_upto_region 2 with (first
    | (go_at_call 24; refine (unhide X1).mono ?_; rintro e W1 ⟨rfl, hb1⟩; have HBX := hide hb1; clear hb1)
    | fail)
  have X2 := hide (lentD (unhide EA) W1 (unhide HKV _ (unhide HBX)))
  go_upto_region 3 with (first
    | (go_at_call 15; refine (unhide X2).mono ?_; rintro e W2 ⟨g, cc, rfl, hle, hb1⟩; have HLE := hide hle; replace HBX := hide (unhide HUP _ _ (unhide HBX) hb1); clear hb1 hle)
    | fail)
  have X3 := hide (kEncode T er (unhide HEN) (unhide EA) (unhide HLE).da W2 (Below.refl _ _))
  go_upto_region 4 with (first
    | (go_at_call 25; refine (unhide X3).mono ?_; rintro e W3 ⟨rfl, hb1⟩; replace HLE := hide ((unhide HLE).below hb1); replace HBX := hide (unhide HUP _ _ (unhide HBX) hb1); clear hb1)
    | fail)
  clear X1 X2 X3
  have X4 := hide (W.wNew W3)
  have HWN := hide (Wn.new W3 70)
  obtain ⟨aw, haw⟩ : ∃ a, a = W3.heap.size := ⟨_, rfl⟩
  have HAW := hide haw
  rw [← haw] at X4
  have HWN : Hid (Wn W3 (W3.alloc (.cells #[.slice none 0 0] 70)) W3.heap.size aw aw []) := by rw [haw]; exact unhide HWN
  clear haw
  go_upto_region 5 with (first
    | (go_at_call 13; refine (unhide X4).mono ?_; rintro e W4 ⟨rfl, hw4⟩; rw [← hw4] at HWN; clear hw4)
    | fail)
  have X5 := hide (W.wByte aw aw [] 9 W4 (unhide HWN).wr (by decide) (by decide) (by simp))
  go_upto_region 6 with (first
    | (go_at_call 26; refine (unhide X5).mono ?_; rintro e W5 ⟨rfl, r5, hp5⟩; have HW5 : Hid (Wn W3 W5 W3.heap.size aw r5 [9]) := (unhide HWN).put hp5; clear hp5)
    | fail)
  have X6 := hide (put9 (c := cc) (unhide EA) (unhide HEN0) (unhide HLE).da.at (unhide HW5))
  go_upto_region 7 with (first
    | (go_at_call 12; refine (unhide X6).mono ?_; rintro e W6 ⟨rfl, r6, hp6⟩; have HW6 := hide hp6; clear hp6)
    | fail)
  have X7 : Hid (Calls Try.prog 27 #[.pointer (some ⟨aw, 0, none⟩)] W6 fun e w' => e = .returned (.string T9) ∧ w' = W6) := by rw [unhide HT9]; exact W.wTold aw r6 (9 :: tl) W6 (unhide HW6).wr
  replace HLE := hide ((unhide HLE).below (unhide HW6).below)
  replace HBX := hide (unhide HUP _ _ (unhide HBX) (unhide HW6).below)
  have X8 := hide (keptD (unhide EA) W6 (unhide HLE) (unhide HKV _ (unhide HBX)))
  clear X4 X5 X6 HWN HW5 HW6 HAW HT9 HEN HEN0
  go_upto_region 9 with (first
    | (go_at_call 27; refine (unhide X7).mono ?_; rintro e w7 ⟨rfl, hw7⟩; obtain rfl := hw7.symm; clear hw7)
    | (go_at_call 17; refine (unhide X8).mono ?_; rintro e W7 ⟨rfl, hb1⟩; replace HBX := hide (unhide HUP _ _ (unhide HBX) hb1); clear hb1)
    | fail)
  clear X7 X8 HLE HKV hcat9 H1
  have X9 := hide (decR (unhide HMD) (unhide EM) (unhide HS) W7)
  go_upto_region 10 with (first
    | (go_at_call 28; refine (unhide X9).mono ?_; rintro e W8 ⟨xu, cu, rfl, ho, hb1⟩; replace HBX := hide (unhide HUP _ _ (unhide HBX) hb1); have HOU := hide ho; clear hb1 ho)
    | fail)
  have X10 := hide (decP (unhide HMD) (unhide EM) (unhide HS) W8)
  have HN8 := hide (unhide HSZ _ (unhide HBX))
  have HUB : Hid (∀ y, xu = some y → y.block < W8.heap.size) := fun y hy => ((unhide HOU).blkx y hy).2
  go_upto_region 11 with (first
    | (go_at_call 29; refine (unhide X10).mono ?_; rintro e W9 ⟨xv, cv, rfl, ho, hb1⟩; replace HBX := hide (unhide HUP _ _ (unhide HBX) hb1); replace HOU := hide ((unhide HOU).below hb1); have HOV := hide ho; clear hb1 ho)
    | fail)
  have X11 := hide (decP (unhide HMD) (unhide EM) (unhide HS) W9)
  have HVB : Hid (∀ y, xv = some y → W8.heap.size ≤ y.block ∧ y.block < W9.heap.size) := (unhide HOV).blkx
  go_upto_region 12 with (first
    | (go_at_call 29; refine (unhide X11).mono ?_; rintro e W10 ⟨xw, cw, rfl, ho, hb1⟩; replace HBX := hide (unhide HUP _ _ (unhide HBX) hb1); replace HOU := hide ((unhide HOU).below hb1); replace HOV := hide ((unhide HOV).below hb1); have HOW := hide ho; clear hb1 ho)
    | fail)
  clear X9 X10 X11
  have X12 := hide (krSame rfl (unhide EM) (unhide EM) ((unhide HOV).da (unhide HMF)) ((unhide HOU).da (unhide HMF)))
  go_upto_region 14 with (first
    | (go_at_call_of 21 (Value.slice xv nm cv); have _t := X12; refine (unhide X12).mono ?_; rintro e W11 ⟨rfl, hb1⟩; replace HBX := hide (unhide HUP _ _ (unhide HBX) hb1); replace HOU := hide ((unhide HOU).below hb1); replace HOV := hide ((unhide HOV).below hb1); replace HOW := hide ((unhide HOW).below hb1); clear hb1 X12 _t; have X13 := hide (krSame rfl (unhide EM) (unhide EM) ((unhide HOW).da (unhide HMF)) ((unhide HOU).da (unhide HMF))))
    | (go_at_call 21; refine (unhide X13).mono ?_; rintro e W12 ⟨rfl, hb1⟩; replace HBX := hide (unhide HUP _ _ (unhide HBX) hb1); replace HOU := hide ((unhide HOU).below hb1); replace HOV := hide ((unhide HOV).below hb1); replace HOW := hide ((unhide HOW).below hb1); clear hb1 X13)
    | fail)
  have X14 : Hid (Calls Try.prog 22 #[.slice xv nm cv, .int .u64 7] W12 fun e u' => e = .returned (.tuple #[]) ∧ Sp W12 u' xv ∧ ∃ l2, l2.length = m.length ∧ OwnD u' W8.heap.size l2 xv cv) := lSpoil 7 (by decide) m nm (by rw [unhide EM]; exact Nat.le_refl _) xv cv W8.heap.size W12 (Nat.le_trans (unhide HMF).2 (by decide)) (unhide HOV)
  have HNB : Hid (∀ x, xv = some x → N ≤ x.block) := fun x hx => Nat.le_trans (unhide HN8) ((unhide HVB) x hx).1
  have HN12 := hide (unhide HSZ _ (unhide HBX))
  go_upto_region 15 with (first
    | (go_at_call 22; refine (unhide X14).mono ?_; rintro e W13 ⟨rfl, hsp, -⟩; replace HBX := hide (unhide HUQ _ _ (unhide HBX) (hsp.below (unhide HN12) (unhide HNB))); replace HOW := hide (hsp.own (unhide HOW) (fun x hx => ((unhide HVB) x hx).2)); replace HOU := hide (hsp.keep (unhide HOU) (fun x y hx hy => Nat.ne_of_lt (Nat.lt_of_lt_of_le (unhide HUB y hy) ((unhide HVB) x hx).1))); clear hsp)
    | fail)
  clear X14 HOV HNB HUB HVB
  have X15 := hide (krSame rfl (unhide EM) (unhide EM) ((unhide HOW).da (unhide HMF)) ((unhide HOU).da (unhide HMF)))
  go_upto_region 17 with (first
    | (go_at_call 21; refine (unhide X15).mono ?_; rintro e W14 ⟨rfl, hb1⟩; replace HBX := hide (unhide HUP _ _ (unhide HBX) hb1); clear hb1)
    | fail)
  clear X15 HOW HOU HMD HMF HN8 HN12 HS
  have HN14 := hide (unhide HSZ _ (unhide HBX))
  have HRM := hide (W.Rd.new sr W14 49 (unhide HSR))
  have HBM : Hid (Below W14.heap.size W14 (W14.alloc (.cells #[.string sr, .int .i64 0, .int .i64 0] 49))) := (Below.refl _ _).alloc (Nat.le_refl _) _
  have HSM : Hid ((W14.alloc (.cells #[.string sr, .int .i64 0, .int .i64 0] 49)).heap.size = W14.heap.size + 1) := by simp [Hid]
  replace HBM := hide (unhide HUP _ _ (unhide HBX) (unhide HBM))
  obtain ⟨WA, hWA⟩ : ∃ U, U = W14.alloc (.cells #[.string sr, .int .i64 0, .int .i64 0] 49) := ⟨_, rfl⟩
  have HWA := hide hWA
  rw [← hWA] at HBM HSM HRM
  obtain ⟨am, ham⟩ : ∃ a, a = W14.heap.size := ⟨_, rfl⟩
  have HAM := hide ham
  rw [← ham] at HRM HSM HN14
  clear hWA ham
  go_upto_region 18 with fail
  rw [← unhide HWA, ← unhide HAM]
  clear HWA HAM HBX
  have X18 := hide (W.rNew sr WA)
  have HRR := hide (W.Rd.new sr WA 75 (unhide HSR))
  have HBR : Hid (Below WA.heap.size WA (WA.alloc (.cells #[.string sr, .int .i64 0, .int .i64 0] 75))) := (Below.refl _ _).alloc (Nat.le_refl _) _
  have HSR2 : Hid ((WA.alloc (.cells #[.string sr, .int .i64 0, .int .i64 0] 75)).heap.size = WA.heap.size + 1) := by simp [Hid]
  obtain ⟨ar, har⟩ : ∃ a, a = WA.heap.size := ⟨_, rfl⟩
  have HAR : Hid (ar = am + 1) := har.trans (unhide HSM)
  rw [← har] at HRR X18 HSR2
  have HAN : Hid (am ≠ ar) := by rw [unhide HAR]; exact Nat.ne_of_lt (Nat.lt_succ_self _)
  have HAA : Hid (N ≤ ar) := by rw [unhide HAR]; exact Nat.le_succ_of_le (unhide HN14)
  clear har
  go_upto_region 19 with (first
    | (go_at_call 30; refine (unhide X18).mono ?_; rintro e WB ⟨rfl, hwb⟩; rw [← hwb] at HRR HBR HSR2; clear hwb; have HBX := hide (unhide HUP _ _ (unhide HBM) (unhide HBR)); replace HRM := hide (Rd.below (unhide HRM) (unhide HBR)))
    | fail)
  clear X18 HBR HBM hcat HSM HSR
  have HUW : Hid (∀ (U U' : World) (a : Nat), Below N u U → N ≤ a → W.Upd U U' a a → Below N u U') := fun U U' a h1 h2 h3 => h1.trans (h3.below (unhide HSZ _ h1) h2 h2)
  cases failed with
  | false =>
    go_upto_region 22 with fail
    obtain ⟨WC, hWC⟩ : ∃ W, W = WB := ⟨_, rfl⟩
    rw [← hWC] at HRM HRR HBX ⊢
    clear hWC HSR2
    obtain ⟨L, hL⟩ : ∃ L, takeL sr 0 0 = L := ⟨_, rfl⟩
    obtain ⟨E, hE⟩ : ∃ E, takeE sr 0 0 = E := ⟨_, rfl⟩
    obtain ⟨q, hq⟩ : ∃ q, (tkV sr 0 0).2.1 = q := ⟨_, rfl⟩
    obtain ⟨nl, hnl⟩ : ∃ n, n = L.length := ⟨_, rfl⟩
    have ENL := hide hnl
    have HLF : Hid (Fits L ∧ L.length ≤ 64) := by have := takeL_fits sr 0 0; rw [hL] at this; exact this
    have X22 := hide (takR hL hE hq hnl WC (unhide HRM))
    have HX23 : Hid (∀ w : World, W.Rd w ar sr 0 0 → Calls Try.prog 11 #[.pointer (some ⟨ar, 0, none⟩)] w fun x u' => ∃ ao c, x = .returned (.slice ao nl c) ∧ Tk w u' w.heap.size ar sr q E L ao c) := fun w h => takP hL hE hq hnl w h
    clear hL hE hq hnl
    have HARC := hide (unhide HRR).lt
    go_upto_region 23 with (first
      | (go_at_call 33; refine (unhide X22).mono ?_; rintro e WD ⟨xo, co, rfl, ht⟩; have HTX := hide ht; replace HBX := hide (unhide HUW _ _ _ (unhide HBX) (unhide HN14) ht.upd); replace HRR := hide ((unhide HRR).upd ht.upd (unhide HAN).symm (unhide HAN).symm); clear ht)
      | fail)
    have X23 := hide (unhide HX23 WD (unhide HRR))
    go_upto_region 24 with (first
      | (go_at_call 11; refine (unhide X23).mono ?_; rintro e WE ⟨yo, co2, rfl, ht⟩; have HTY := hide ht; replace HBX := hide (unhide HUW _ _ _ (unhide HBX) (unhide HAA) ht.upd); have HRM2 := hide ((unhide HTX).rd.upd ht.upd (unhide HAN) (unhide HAN)); have HOX := hide ((unhide HTX).own.upd ht.upd (unhide HARC)); clear ht)
      | fail)
    clear X22 X23 HX23 HTX HRM HRR HARC
    have HDR : Hid (Below WE.heap.size WE WE.drew) := belowDrew (Below.refl _ _)
    have T1 := hide (krSame rfl (unhide ENL) (unhide ENL) (((unhide HOX).below (unhide HDR)).da (unhide HLF)) (((unhide HTY).own.below (unhide HDR)).da (unhide HLF)))
    have HRY := hide (Rd.below (unhide HTY).rd (unhide HDR))
    have HRX := hide (Rd.below (unhide HRM2) (unhide HDR))
    have HBD := hide (belowDrew (unhide HBX))
    have y1 := (unhide HRM2).c1
    have y2 := (unhide HRM2).c2
    clear HOX HTY HRM2 HBX HDR HLF ENL
    go_region_held3 (fun w => w.cell? ⟨am, 1, none⟩ = some (.int .i64 (q : Int)) ∧ w.cell? ⟨am, 2, none⟩ = some (.int .i64 E)) (first | exact ⟨y1, y2⟩ | exact ⟨a1, a2⟩ | exact ⟨b1, b2⟩ | exact ⟨c1, c2⟩ | (go_keep; done)) (first
      | (go_at_call 21; refine (unhide T1).mono ?_; rintro e w1 ⟨rfl, hb1⟩; have HRY1 := hide (Rd.below (unhide HRY) hb1); have HRX1 := hide (Rd.below (unhide HRX) hb1); have HB1 := hide (unhide HUP _ _ (unhide HBD) hb1); have a1 := (unhide HRX1).c1; have a2 := (unhide HRX1).c2; clear hb1)
      | (go_at_call 34; refine (W.rErr ar sr q E w1 (unhide HRY1)).mono ?_; rintro e w2 ⟨rfl, hw2⟩; obtain rfl := hw2.symm; clear hw2)
      | (go_at_call 35; refine (W.rAt ar sr q E w1 (unhide HRY1)).mono ?_; rintro e w3 ⟨rfl, hw3⟩; obtain rfl := hw3.symm; clear hw3)
      | (go_at_call 36; refine (W.rEnd ar sr q E w1 (unhide HRY1)).mono ?_; rintro e w4 ⟨rfl, z4, hz4⟩; have HRX4 : Hid (W.Rd w4 am sr q E) := (by rw [hz4]; exact (unhide HRX1).drewN z4); have HB4 : Hid (Below N u w4) := (by rw [hz4]; exact belowDrewN (unhide HB1) z4); have b1 := (unhide HRX4).c1; have b2 := (unhide HRX4).c2; clear hz4)
      | (go_at_call 37; refine (W.mEnd am sr q E w4 (unhide HRX4)).mono ?_; rintro e w5 ⟨rfl, z5, hz5⟩; have HB5 : Hid (Below N u w5) := (by rw [hz5]; exact belowDrewN (unhide HB4) z5); have c1 : w5.cell? ⟨am, 1, none⟩ = some (.int .i64 (q : Int)) := (by rw [hz5]; exact ((unhide HRX4).drewN z5).c1); have c2 : w5.cell? ⟨am, 2, none⟩ = some (.int .i64 E) := (by rw [hz5]; exact ((unhide HRX4).drewN z5).c2); clear hz5)
      | fail)
    go_wp2
    go_ret
    exact ⟨rfl, unhide HB5⟩
  | true =>
    have X20 : Hid (Calls Try.prog 31 #[.pointer (some ⟨am, 0, none⟩), .int .i64 4] WB fun y w' => y = .returned (.tuple #[]) ∧ W.Rt WB w' am sr 0 4) := W.mFail am sr 0 0 4 WB (unhide HRM)
    have HX21 : Hid (∀ w : World, W.Rd w ar sr 0 0 → Calls Try.prog 32 #[.pointer (some ⟨ar, 0, none⟩), .int .i64 4] w fun y w' => y = .returned (.tuple #[]) ∧ W.Rt w w' ar sr 0 4) := fun w h => W.rFail ar sr 0 0 4 w h
    go_upto_region 22 with (first
      | (go_at_call 31; refine (unhide X20).mono ?_; rintro e WF ⟨rfl, hr1⟩; replace HRM := hide hr1.1; replace HRR := hide ((unhide HRR).upd hr1.2 (unhide HAN).symm (unhide HAN).symm); replace HBX := hide (unhide HUW _ _ _ (unhide HBX) (unhide HN14) hr1.2); clear hr1)
      | (go_at_call 32; refine (unhide HX21 _ (unhide HRR)).mono ?_; rintro e WC ⟨rfl, hr1⟩; replace HRR := hide hr1.1; replace HRM := hide ((unhide HRM).upd hr1.2 (unhide HAN) (unhide HAN)); replace HBX := hide (unhide HUW _ _ _ (unhide HBX) (unhide HAA) hr1.2); clear hr1)
      | fail)
    clear X20 HX21 HSR2
    obtain ⟨L, hL⟩ : ∃ L, takeL sr 0 4 = L := ⟨_, rfl⟩
    obtain ⟨E, hE⟩ : ∃ E, takeE sr 0 4 = E := ⟨_, rfl⟩
    obtain ⟨q, hq⟩ : ∃ q, (tkV sr 0 4).2.1 = q := ⟨_, rfl⟩
    obtain ⟨nl, hnl⟩ : ∃ n, n = L.length := ⟨_, rfl⟩
    have ENL := hide hnl
    have HLF : Hid (Fits L ∧ L.length ≤ 64) := by have := takeL_fits sr 0 4; rw [hL] at this; exact this
    have X22 := hide (takR hL hE hq hnl WC (unhide HRM))
    have HX23 : Hid (∀ w : World, W.Rd w ar sr 0 4 → Calls Try.prog 11 #[.pointer (some ⟨ar, 0, none⟩)] w fun x u' => ∃ ao c, x = .returned (.slice ao nl c) ∧ Tk w u' w.heap.size ar sr q E L ao c) := fun w h => takP hL hE hq hnl w h
    clear hL hE hq hnl
    have HARC := hide (unhide HRR).lt
    go_upto_region 23 with (first
      | (go_at_call 33; refine (unhide X22).mono ?_; rintro e WD ⟨xo, co, rfl, ht⟩; have HTX := hide ht; replace HBX := hide (unhide HUW _ _ _ (unhide HBX) (unhide HN14) ht.upd); replace HRR := hide ((unhide HRR).upd ht.upd (unhide HAN).symm (unhide HAN).symm); clear ht)
      | fail)
    have X23 := hide (unhide HX23 WD (unhide HRR))
    go_upto_region 24 with (first
      | (go_at_call 11; refine (unhide X23).mono ?_; rintro e WE ⟨yo, co2, rfl, ht⟩; have HTY := hide ht; replace HBX := hide (unhide HUW _ _ _ (unhide HBX) (unhide HAA) ht.upd); have HRM2 := hide ((unhide HTX).rd.upd ht.upd (unhide HAN) (unhide HAN)); have HOX := hide ((unhide HTX).own.upd ht.upd (unhide HARC)); clear ht)
      | fail)
    clear X22 X23 HX23 HTX HRM HRR HARC
    have HDR : Hid (Below WE.heap.size WE WE.drew) := belowDrew (Below.refl _ _)
    have T1 := hide (krSame rfl (unhide ENL) (unhide ENL) (((unhide HOX).below (unhide HDR)).da (unhide HLF)) (((unhide HTY).own.below (unhide HDR)).da (unhide HLF)))
    have HRY := hide (Rd.below (unhide HTY).rd (unhide HDR))
    have HRX := hide (Rd.below (unhide HRM2) (unhide HDR))
    have HBD := hide (belowDrew (unhide HBX))
    have y1 := (unhide HRM2).c1
    have y2 := (unhide HRM2).c2
    clear HOX HTY HRM2 HBX HDR HLF ENL
    go_region_held3 (fun w => w.cell? ⟨am, 1, none⟩ = some (.int .i64 (q : Int)) ∧ w.cell? ⟨am, 2, none⟩ = some (.int .i64 E)) (first | exact ⟨y1, y2⟩ | exact ⟨a1, a2⟩ | exact ⟨b1, b2⟩ | exact ⟨c1, c2⟩ | (go_keep; done)) (first
      | (go_at_call 21; refine (unhide T1).mono ?_; rintro e w1 ⟨rfl, hb1⟩; have HRY1 := hide (Rd.below (unhide HRY) hb1); have HRX1 := hide (Rd.below (unhide HRX) hb1); have HB1 := hide (unhide HUP _ _ (unhide HBD) hb1); have a1 := (unhide HRX1).c1; have a2 := (unhide HRX1).c2; clear hb1)
      | (go_at_call 34; refine (W.rErr ar sr q E w1 (unhide HRY1)).mono ?_; rintro e w2 ⟨rfl, hw2⟩; obtain rfl := hw2.symm; clear hw2)
      | (go_at_call 35; refine (W.rAt ar sr q E w1 (unhide HRY1)).mono ?_; rintro e w3 ⟨rfl, hw3⟩; obtain rfl := hw3.symm; clear hw3)
      | (go_at_call 36; refine (W.rEnd ar sr q E w1 (unhide HRY1)).mono ?_; rintro e w4 ⟨rfl, z4, hz4⟩; have HRX4 : Hid (W.Rd w4 am sr q E) := (by rw [hz4]; exact (unhide HRX1).drewN z4); have HB4 : Hid (Below N u w4) := (by rw [hz4]; exact belowDrewN (unhide HB1) z4); have b1 := (unhide HRX4).c1; have b2 := (unhide HRX4).c2; clear hz4)
      | (go_at_call 37; refine (W.mEnd am sr q E w4 (unhide HRX4)).mono ?_; rintro e w5 ⟨rfl, z5, hz5⟩; have HB5 : Hid (Below N u w5) := (by rw [hz5]; exact belowDrewN (unhide HB4) z5); have c1 : w5.cell? ⟨am, 1, none⟩ = some (.int .i64 (q : Int)) := (by rw [hz5]; exact ((unhide HRX4).drewN z5).c1); have c2 : w5.cell? ⟨am, 2, none⟩ = some (.int .i64 E) := (by rw [hz5]; exact ((unhide HRX4).drewN z5).c2); clear hz5)
      | fail)
    go_wp2
    go_ret
    exact ⟨rfl, unhide HB5⟩
end Go.Proofs.Ytajflgonhomkfaa
