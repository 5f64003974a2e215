/- The bytes of what a value is made of. -/
import Derived.Test.YtpepgealeanecaaGd
import Derived.Laws.Cover4
namespace Go.Proofs.Ytpepgealeanecaa
open Go.RowKit Go.Lib
/-- floats, as they are told -/
def fltsB (l : List Nat) : List UInt8 := l.flatMap fun b => W.fixB (W.fltB b) 8
/-- runes, as they are told -/
def runsB (l : List Nat) : List UInt8 := (runesBytes (l.map fun (n : Nat) => (n : Int))).data.toList
theorem fltsB_take {l : List Nat} {k : Nat} (h : k < l.length) : fltsB (l.take (k + 1)) = fltsB (l.take k) ++ W.fixB (W.fltB l[k]) 8 := by
  unfold fltsB
  rw [List.take_succ_eq_append_getElem h, List.flatMap_append]
  simp only [List.flatMap_cons, List.flatMap_nil, List.append_nil]
theorem fltsB_len (l : List Nat) : (fltsB l).length = 8 * l.length := by
  induction l with
  | nil => rfl
  | cons b l ih => simp [fltsB, W.fixB_length] at ih ⊢; omega
theorem runsB_len (l : List Nat) : (runsB l).length ≤ 4 * l.length := by
  have := runesBytes_size_le (l.map fun (n : Nat) => (n : Int))
  rw [List.length_map] at this
  unfold runsB
  generalize runesBytes (l.map fun (n : Nat) => (n : Int)) = R at *
  rw [Array.length_toList]
  exact this
/-- the bytes behind the kind -/
def bodyM (t : Ty) : List UInt8 :=
  if t.k = 1 then [if t.on = true then 1 else 0] else if t.k = 3 then talU t.ta 5 else if t.k = 4 then runsB t.ru else if t.k = 2 ∨ t.k = 5 then fltsB t.fl else []
/-- the bytes -/
def toldM (t : Ty) : List UInt8 := UInt8.ofNat t.k :: bodyM t
/-- what is kept while a value is told: the variable, the writer -/
structure Wt (u w : World) (N a r : Nat) (bs : List UInt8) (k : Nat) (on : Bool) (fa : Option Addr) (n fc : Nat) (ta : List Nat) (ra : Option Addr) (m rc : Nat) : Prop where
  wn : Wn u w u.heap.size a r bs
  bt : Bt w N k on fa n fc ta ra m rc
  na : N ≠ a
  nr : N ≠ r
section
variable {u w w' : World} {N a r : Nat} {bs : List UInt8} {k : Nat} {on : Bool} {fa : Option Addr} {n fc : Nat} {ta : List Nat} {ra : Option Addr} {m rc : Nat}
theorem Wt.put {r' : Nat} {bs' : List UInt8} (h : Wt u w N a r bs k on fa n fc ta ra m rc) (hp : W.Put w w' a r r' bs') : Wt u w' N a r' bs' k on fa n fc ta ra m rc :=
  ⟨h.wn.put hp, ⟨(box_put hp h.bt.row h.na h.nr).1, h.bt.len⟩, h.na, (box_put hp h.bt.row h.na h.nr).2⟩
theorem Wt.new (hN : N = u.heap.size) (hb : Below N u w) (hs : w.heap.size = N + 1) (hx : Bt w N k on fa n fc ta ra m rc) (t : TypeId) : Wt u (w.alloc (.cells #[.slice none 0 0] t)) N w.heap.size w.heap.size [] k on fa n fc ta ra m rc := by
  have h := Wn.new w t
  refine ⟨⟨h.wr, ?_, ?_, ?_, ?_⟩, hx.same (Below.heap_alloc w _ N hx.lt), ?_, ?_⟩
  · rw [← hN]; exact hb.alloc (by omega) _
  · simp; omega
  · omega
  · omega
  · omega
  · omega
end
set_option maxRecDepth 100000 in
set_option maxHeartbeats 4000000 in
theorem told1 (t : Ty) (hk : t.k = 1) (fa : Option Addr) (fc : Nat) (ra : Option Addr) (rc n m : Nat) (hn : n = t.fl.length) (hm : m = t.ru.length) (u : World) (h : TAt u t fa fc ra rc) :
    Calls Try.prog 52 #[tyV 1 t.on fa n fc t.ta ra m rc] u fun e u' => e = .returned (.string ⟨(toldM t).toArray⟩) ∧ Below u.heap.size u u' := by
  have HH := hide h
  have HTL : Hid (t.ta.length = 10) := h.tl
  have HTB : Hid (∀ x ∈ t.ta, x < 65536) := h.tb
  have HT : Hid (toldM t = [1] ++ (if t.on = true then [1] else [0])) := by unfold toldM bodyM; rw [hk]; cases t.on <;> rfl
  have HKE : Hid (((1 : Nat) : Int).toNat = 1) := rfl
  generalize toldM t = TB at *
  obtain ⟨k0, on, fl, ta, ru⟩ := t
  obtain rfl : k0 = 1 := hk
  simp only at hn hm HTL HTB HT ⊢
  have Hn := hide hn
  have Hm := hide hm
  clear h hn hm
  obtain ⟨N, hN⟩ : ∃ N, N = u.heap.size := ⟨_, rfl⟩
  have HN := hide hN
  clear hN
  cases on
  · go_enter Try.func52, Try.ntmps52
    go_wp2_with (first
    | ((with_reducible refine wpList_box_ty (by rfl) (.tmp 0) (by rfl) (some 1) (by rfl) N (unhide HN) 1 false fa n fc ta ra m rc (by with_unfolding_all rfl) (unhide HTL) ?_); intro W1 HX1 HB1 HS1; simp only [Act.put, List.setIfInBounds_toArray, List.set_cons_zero, List.set_cons_succ])
    | (go_at_call 76; refine (W.wNew W1).mono ?_; rintro e W2 ⟨rfl, rfl⟩; have HT2 := hide (Wt.new (unhide HN) (unhide HB1) (unhide HS1) (unhide HX1) 129); generalize W1.alloc _ = W2 at *; generalize W1.heap.size = a at *; have c0 := (unhide HT2).bt.c0; clear HX1 HB1 HS1)
    | (go_at_call 77; refine (W.wByte a a [] 1 W2 (unhide HT2).wn.wr (by decide) (by decide) (by decide)).mono ?_; rintro e W3 ⟨rfl, r3, hp3⟩; have HT3 := hide ((unhide HT2).put hp3); clear hp3 HT2 c0; have c0 := (unhide HT3).bt.c0; have c1 := (unhide HT3).bt.c1; have c2 := (unhide HT3).bt.c2; have c13 := (unhide HT3).bt.c13)
    | (go_at_call 77; refine (W.wByte a r3 _ 0 W3 (unhide HT3).wn.wr (by decide) (by decide) (by decide)).mono ?_; rintro e W4 ⟨rfl, r4, hp4⟩; have HT4 := hide ((unhide HT3).put hp4); clear hp4 HT3)
    | (go_at_call 81; refine (W.wTold a r4 _ W4 (unhide HT4).wn.wr).mono ?_; rintro e W5 ⟨rfl, rfl⟩)
    | fail)
    go_ret
    exact ⟨by rw [unhide HT]; rfl, (unhide HT4).wn.below⟩
  · go_enter Try.func52, Try.ntmps52
    go_wp2_with (first
    | ((with_reducible refine wpList_box_ty (by rfl) (.tmp 0) (by rfl) (some 1) (by rfl) N (unhide HN) 1 true fa n fc ta ra m rc (by with_unfolding_all rfl) (unhide HTL) ?_); intro W1 HX1 HB1 HS1; simp only [Act.put, List.setIfInBounds_toArray, List.set_cons_zero, List.set_cons_succ])
    | (go_at_call 76; refine (W.wNew W1).mono ?_; rintro e W2 ⟨rfl, rfl⟩; have HT2 := hide (Wt.new (unhide HN) (unhide HB1) (unhide HS1) (unhide HX1) 129); generalize W1.alloc _ = W2 at *; generalize W1.heap.size = a at *; have c0 := (unhide HT2).bt.c0; clear HX1 HB1 HS1)
    | (go_at_call 77; refine (W.wByte a a [] 1 W2 (unhide HT2).wn.wr (by decide) (by decide) (by decide)).mono ?_; rintro e W3 ⟨rfl, r3, hp3⟩; have HT3 := hide ((unhide HT2).put hp3); clear hp3 HT2 c0; have c0 := (unhide HT3).bt.c0; have c1 := (unhide HT3).bt.c1; have c2 := (unhide HT3).bt.c2; have c13 := (unhide HT3).bt.c13)
    | (go_at_call 77; refine (W.wByte a r3 _ 1 W3 (unhide HT3).wn.wr (by decide) (by decide) (by decide)).mono ?_; rintro e W4 ⟨rfl, r4, hp4⟩; have HT4 := hide ((unhide HT3).put hp4); clear hp4 HT3)
    | (go_at_call 81; refine (W.wTold a r4 _ W4 (unhide HT4).wn.wr).mono ?_; rintro e W5 ⟨rfl, rfl⟩)
    | fail)
    go_ret
    exact ⟨by rw [unhide HT]; rfl, (unhide HT4).wn.below⟩
set_option maxRecDepth 100000 in
set_option maxHeartbeats 4000000 in
theorem told3 (t : Ty) (hk : t.k = 3) (fa : Option Addr) (fc : Nat) (ra : Option Addr) (rc n m : Nat) (hn : n = t.fl.length) (hm : m = t.ru.length) (u : World) (h : TAt u t fa fc ra rc) :
    Calls Try.prog 52 #[tyV 3 t.on fa n fc t.ta ra m rc] u fun e u' => e = .returned (.string ⟨(toldM t).toArray⟩) ∧ Below u.heap.size u u' := by
  have HH := hide h
  have HTL : Hid (t.ta.length = 10) := h.tl
  have HTB : Hid (∀ x ∈ t.ta, x < 65536) := h.tb
  have HT : Hid (toldM t = [3] ++ talU t.ta 5) := by unfold toldM bodyM; rw [hk]; rfl
  have HKE : Hid (((3 : Nat) : Int).toNat = 3) := rfl
  generalize toldM t = TB at *
  obtain ⟨k0, on, fl, ta, ru⟩ := t
  obtain rfl : k0 = 3 := hk
  simp only at hn hm HTL HTB HT ⊢
  have Hn := hide hn
  have Hm := hide hm
  clear h hn hm
  obtain ⟨N, hN⟩ : ∃ N, N = u.heap.size := ⟨_, rfl⟩
  have HN := hide hN
  clear hN
  go_enter Try.func52, Try.ntmps52
  go_wp2_with (first
    | ((with_reducible refine wpList_box_ty (by rfl) (.tmp 0) (by rfl) (some 1) (by rfl) N (unhide HN) 3 on fa n fc ta ra m rc (by with_unfolding_all rfl) (unhide HTL) ?_); intro W1 HX1 HB1 HS1; simp only [Act.put, List.setIfInBounds_toArray, List.set_cons_zero, List.set_cons_succ])
    | (go_at_call 76; refine (W.wNew W1).mono ?_; rintro e W2 ⟨rfl, rfl⟩; have HT2 := hide (Wt.new (unhide HN) (unhide HB1) (unhide HS1) (unhide HX1) 129); generalize W1.alloc _ = W2 at *; generalize W1.heap.size = a at *; have c0 := (unhide HT2).bt.c0; clear HX1 HB1 HS1)
    | (go_at_call 77; refine (W.wByte a a [] 3 W2 (unhide HT2).wn.wr (by decide) (by decide) (by decide)).mono ?_; rintro e W3 ⟨rfl, r3, hp3⟩; have HT3 := hide ((unhide HT2).put hp3); clear hp3 HT2 c0; have c0 := (unhide HT3).bt.c0; have c1 := (unhide HT3).bt.c1; have c2 := (unhide HT3).bt.c2; have c13 := (unhide HT3).bt.c13)
    | ((with_reducible refine wpList_load_ta (by rfl) (.tmp 23) (by rfl) (some 24) (by rfl) N 3 (by with_unfolding_all rfl) ta (unhide HT3).bt.rng (unhide HTL) ?_); simp only [Act.put, List.setIfInBounds_toArray, List.set_cons_zero, List.set_cons_succ])
    | (go_at_call 78; refine (lTalPut ta (unhide HTL) (unhide HTB) u W3 u.heap.size a r3 _ (unhide HT3).wn (by simp)).mono ?_; rintro e W4 ⟨rfl, r4, hw⟩; have HT4 := hide hw; clear hw HT3)
    | (go_at_call 81; refine (W.wTold a r4 _ W4 (unhide HT4).wr).mono ?_; rintro e W5 ⟨rfl, rfl⟩)
    | fail)
  go_ret
  exact ⟨by rw [unhide HT]; rfl, (unhide HT4).below⟩
set_option maxRecDepth 100000 in
set_option maxHeartbeats 4000000 in
theorem told4 (t : Ty) (hk : t.k = 4) (fa : Option Addr) (fc : Nat) (ra : Option Addr) (rc n m : Nat) (hn : n = t.fl.length) (hm : m = t.ru.length) (u : World) (h : TAt u t fa fc ra rc) :
    Calls Try.prog 52 #[tyV 4 t.on fa n fc t.ta ra m rc] u fun e u' => e = .returned (.string ⟨(toldM t).toArray⟩) ∧ Below u.heap.size u u' := by
  have HH := hide h
  have HTL : Hid (t.ta.length = 10) := h.tl
  have HTB : Hid (∀ x ∈ t.ta, x < 65536) := h.tb
  have HT : Hid (toldM t = [4] ++ runsB t.ru) := by unfold toldM bodyM; rw [hk]; rfl
  have HKE : Hid (((4 : Nat) : Int).toNat = 4) := rfl
  generalize toldM t = TB at *
  obtain ⟨k0, on, fl, ta, ru⟩ := t
  obtain rfl : k0 = 4 := hk
  simp only at hn hm HTL HTB HT ⊢
  have Hn := hide hn
  have Hm := hide hm
  clear h hn hm
  obtain ⟨N, hN⟩ : ∃ N, N = u.heap.size := ⟨_, rfl⟩
  have HN := hide hN
  clear hN
  have HCV : Hid (∀ W : World, Below u.heap.size u W → (convert 30 9 (.slice ra m rc)).run Try.prog W = .ok (.string (runesBytes (ru.map fun (n : Nat) => (n : Int)))) W) := fun W hW => by
    have hl := (unhide HH).ru.below hW
    have hr0 := (unhide HH).r0
    have hrn := (unhide HH).rn
    rw [unhide Hm]
    rcases ra with _ | ad
    · have := hr0 rfl
      obtain rfl : ru = [] := List.eq_nil_of_length_eq_zero (by simp only at hrn; omega)
      exact run_convert_runes_nil W _ _ _ _ _ Try.underlying30 Try.underlying21 Try.underlying9
    · by_cases h0 : ru.length = 0
      · obtain rfl : ru = [] := List.eq_nil_of_length_eq_zero h0
        exact run_convert_runes W _ _ _ ad 0 rc [] (Nat.le_refl _) Try.underlying30 Try.underlying21 Try.underlying9 (fun j hj => by simp at hj)
      · obtain ⟨g, o, e, hr⟩ := hl (by rw [ruC_len]; simp only; omega)
        cases e
        have := run_convert_runes W 30 9 21 ⟨g, o, none⟩ ru.length rc (ru.map fun (n : Nat) => (n : Int)) (by simp) Try.underlying30 Try.underlying21 Try.underlying9 (fun j hj => by
          rw [Addr.add_mid]
          refine hr j _ ?_
          simp only [List.length_map] at hj
          simp [ruC, hj])
        rw [List.take_of_length_le (by simp)] at this
        exact this
  have HRS : Hid ((runesBytes (ru.map fun (n : Nat) => (n : Int))).size ≤ 4398046511104) := by
    show _ ≤ _
    have := runesBytes_size_le (ru.map fun (n : Nat) => (n : Int))
    have h2 := (unhide HH).rm
    simp only [List.length_map] at this h2
    omega
  have HRB : Hid ((runesBytes (ru.map fun (n : Nat) => (n : Int))).data.toList = runsB ru) := rfl
  generalize runesBytes (ru.map fun (n : Nat) => (n : Int)) = RB at *
  go_enter Try.func52, Try.ntmps52
  go_wp2_with (first
    | ((with_reducible refine wpList_box_ty (by rfl) (.tmp 0) (by rfl) (some 1) (by rfl) N (unhide HN) 4 on fa n fc ta ra m rc (by with_unfolding_all rfl) (unhide HTL) ?_); intro W1 HX1 HB1 HS1; simp only [Act.put, List.setIfInBounds_toArray, List.set_cons_zero, List.set_cons_succ])
    | (go_at_call 76; refine (W.wNew W1).mono ?_; rintro e W2 ⟨rfl, rfl⟩; have HT2 := hide (Wt.new (unhide HN) (unhide HB1) (unhide HS1) (unhide HX1) 129); generalize W1.alloc _ = W2 at *; generalize W1.heap.size = a at *; have c0 := (unhide HT2).bt.c0; clear HX1 HB1 HS1)
    | (go_at_call 77; refine (W.wByte a a [] 4 W2 (unhide HT2).wn.wr (by decide) (by decide) (by decide)).mono ?_; rintro e W3 ⟨rfl, r3, hp3⟩; have HT3 := hide ((unhide HT2).put hp3); clear hp3 HT2 c0; have c0 := (unhide HT3).bt.c0; have c1 := (unhide HT3).bt.c1; have c2 := (unhide HT3).bt.c2; have c13 := (unhide HT3).bt.c13; have hcv := unhide HCV W3 (unhide HT3).wn.below)
    | (go_at_call 79; refine (W.wRaw a r3 _ RB W3 (unhide HT3).wn.wr (by have := unhide HRS; simp only [List.nil_append, List.length_cons, List.length_nil]; omega)).mono ?_; rintro e W4 ⟨rfl, r4, hp4⟩; have HT4 := hide ((unhide HT3).put hp4); clear hp4 HT3)
    | (go_at_call 81; refine (W.wTold a r4 _ W4 (unhide HT4).wn.wr).mono ?_; rintro e W5 ⟨rfl, rfl⟩)
    | fail)
  go_ret
  exact ⟨by rw [unhide HT, unhide HRB]; rfl, (unhide HT4).wn.below⟩
set_option maxRecDepth 100000 in
set_option maxHeartbeats 4000000 in
theorem told2 (t : Ty) (hk : t.k = 2) (fa : Option Addr) (fc : Nat) (ra : Option Addr) (rc n m : Nat) (hn : n = t.fl.length) (hm : m = t.ru.length) (u : World) (h : TAt u t fa fc ra rc) :
    Calls Try.prog 52 #[tyV 2 t.on fa n fc t.ta ra m rc] u fun e u' => e = .returned (.string ⟨(toldM t).toArray⟩) ∧ Below u.heap.size u u' := by
  have HH := hide h
  have HTL : Hid (t.ta.length = 10) := h.tl
  have HTB : Hid (∀ x ∈ t.ta, x < 65536) := h.tb
  have HT : Hid (toldM t = [2] ++ fltsB t.fl) := by unfold toldM bodyM; rw [hk]; rfl
  have HKE : Hid (((2 : Nat) : Int).toNat = 2) := rfl
  generalize toldM t = TB at *
  obtain ⟨k0, on, fl, ta, ru⟩ := t
  obtain rfl : k0 = 2 := hk
  simp only at hn hm HTL HTB HT ⊢
  have Hn := hide hn
  have Hm := hide hm
  clear h hn hm
  obtain ⟨N, hN⟩ : ∃ N, N = u.heap.size := ⟨_, rfl⟩
  have HN := hide hN
  clear hN
  have HFM : Hid (n ≤ 1099511627776) := by show n ≤ _; have := (unhide HH).fm; rw [unhide Hn]; exact this
  go_enter Try.func52, Try.ntmps52
  go_wp2_with (first
    | ((with_reducible refine wpList_box_ty (by rfl) (.tmp 0) (by rfl) (some 1) (by rfl) N (unhide HN) 2 on fa n fc ta ra m rc (by with_unfolding_all rfl) (unhide HTL) ?_); intro W1 HX1 HB1 HS1; simp only [Act.put, List.setIfInBounds_toArray, List.set_cons_zero, List.set_cons_succ])
    | (go_at_call 76; refine (W.wNew W1).mono ?_; rintro e W2 ⟨rfl, rfl⟩; have HT2 := hide (Wt.new (unhide HN) (unhide HB1) (unhide HS1) (unhide HX1) 129); generalize W1.alloc _ = W2 at *; generalize W1.heap.size = a at *; have c0 := (unhide HT2).bt.c0; clear HX1 HB1 HS1)
    | (go_at_call 77; refine (W.wByte a a [] 2 W2 (unhide HT2).wn.wr (by decide) (by decide) (by decide)).mono ?_; rintro e W3 ⟨rfl, r3, hp3⟩; have HT3 := hide ((unhide HT2).put hp3); clear hp3 HT2 c0; have c0 := (unhide HT3).bt.c0; have c1 := (unhide HT3).bt.c1; have c2 := (unhide HT3).bt.c2; have c13 := (unhide HT3).bt.c13)
    | fail)
  clear c0 c1 c2 c13
  go_loopw [40] (fun s40 wr => ∃ (k r4 : Nat), k ≤ n ∧ s40 = .int .i64 k ∧ Hid (Wt u wr N a r4 ([2] ++ fltsB (fl.take k)) 2 on fa n fc ta ra m rc)) (fun s40 _ => n - (intOf s40).toNat)
  case atStart => exact ⟨0, r3, Nat.zero_le _, rfl, unhide HT3⟩
  case round =>
    obtain ⟨k, r4, hk, rfl, HI⟩ := hrel
    by_cases hlt : k < n
    · have hki : (k : Int) < (n : Int) := by omega
      have hfm : n ≤ 1099511627776 := unhide HFM
      have hkl : k < fl.length := by have := unhide Hn; omega
      have hlies := (unhide HH).fl.below (unhide HI).wn.below
      obtain ⟨g, o, hao, hr⟩ := hlies (by rw [flC_len]; simp only; omega)
      have cx := hr k _ (flC_get hkl)
      have hix := ixF g o n fc k hlt
      have HTK := hide (fltsB_take hkl)
      have HLK : Hid ((fltsB (fl.take k)).length ≤ 8796093022208) := by show _ ≤ _; rw [fltsB_len, List.length_take]; have := unhide HFM; omega
      clear hr hlies
      generalize fl[k] = x at *
      generalize o + k = oo at *
      generalize fltsB (fl.take k) = fb at *
      rw [hao]
      go_wp2_with (first
        | (go_at_call 80; refine (W.wFloat a r4 _ x wr (unhide HI).wn.wr (by have := unhide HLK; simp only [List.length_append, List.length_cons, List.length_nil]; omega)).mono ?_; rintro e W4 ⟨rfl, r5, hp4⟩; have HT4 := hide ((unhide HI).put hp4); clear hp4)
        | fail)
      go_roundw
      case rel => exact ⟨k + 1, r5, by omega, by go_num, by rw [unhide HTK, ← List.append_assoc, ← hao]; exact unhide HT4⟩
      case measure => simp [intOf]; omega
    · obtain rfl : k = n := by omega
      have hki : ¬ (k : Int) < (k : Int) := by omega
      have HI2 : Hid (Wn u wr u.heap.size a r4 TB) := by
        have := (unhide HI).wn
        rw [show fl.take k = fl by rw [unhide Hn]; exact List.take_length] at this
        rw [unhide HT]; exact this
      go_wp2_with (first
        | (go_at_call 81; refine (W.wTold a r4 TB wr (unhide HI2).wr).mono ?_; rintro e W5 ⟨rfl, rfl⟩)
        | fail)
      go_ret
      exact ⟨rfl, (unhide HI2).below⟩
set_option maxRecDepth 100000 in
set_option maxHeartbeats 4000000 in
theorem told5 (t : Ty) (hk : t.k = 5) (fa : Option Addr) (fc : Nat) (ra : Option Addr) (rc n m : Nat) (hn : n = t.fl.length) (hm : m = t.ru.length) (u : World) (h : TAt u t fa fc ra rc) :
    Calls Try.prog 52 #[tyV 5 t.on fa n fc t.ta ra m rc] u fun e u' => e = .returned (.string ⟨(toldM t).toArray⟩) ∧ Below u.heap.size u u' := by
  have HH := hide h
  have HTL : Hid (t.ta.length = 10) := h.tl
  have HTB : Hid (∀ x ∈ t.ta, x < 65536) := h.tb
  have HT : Hid (toldM t = [5] ++ fltsB t.fl) := by unfold toldM bodyM; rw [hk]; rfl
  have HKE : Hid (((5 : Nat) : Int).toNat = 5) := rfl
  generalize toldM t = TB at *
  obtain ⟨k0, on, fl, ta, ru⟩ := t
  obtain rfl : k0 = 5 := hk
  simp only at hn hm HTL HTB HT ⊢
  have Hn := hide hn
  have Hm := hide hm
  clear h hn hm
  obtain ⟨N, hN⟩ : ∃ N, N = u.heap.size := ⟨_, rfl⟩
  have HN := hide hN
  clear hN
  have HFM : Hid (n ≤ 1099511627776) := by show n ≤ _; have := (unhide HH).fm; rw [unhide Hn]; exact this
  go_enter Try.func52, Try.ntmps52
  go_wp2_with (first
    | ((with_reducible refine wpList_box_ty (by rfl) (.tmp 0) (by rfl) (some 1) (by rfl) N (unhide HN) 5 on fa n fc ta ra m rc (by with_unfolding_all rfl) (unhide HTL) ?_); intro W1 HX1 HB1 HS1; simp only [Act.put, List.setIfInBounds_toArray, List.set_cons_zero, List.set_cons_succ])
    | (go_at_call 76; refine (W.wNew W1).mono ?_; rintro e W2 ⟨rfl, rfl⟩; have HT2 := hide (Wt.new (unhide HN) (unhide HB1) (unhide HS1) (unhide HX1) 129); generalize W1.alloc _ = W2 at *; generalize W1.heap.size = a at *; have c0 := (unhide HT2).bt.c0; clear HX1 HB1 HS1)
    | (go_at_call 77; refine (W.wByte a a [] 5 W2 (unhide HT2).wn.wr (by decide) (by decide) (by decide)).mono ?_; rintro e W3 ⟨rfl, r3, hp3⟩; have HT3 := hide ((unhide HT2).put hp3); clear hp3 HT2 c0; have c0 := (unhide HT3).bt.c0; have c1 := (unhide HT3).bt.c1; have c2 := (unhide HT3).bt.c2; have c13 := (unhide HT3).bt.c13)
    | fail)
  clear c0 c1 c2 c13
  go_loopw [40] (fun s40 wr => ∃ (k r4 : Nat), k ≤ n ∧ s40 = .int .i64 k ∧ Hid (Wt u wr N a r4 ([5] ++ fltsB (fl.take k)) 5 on fa n fc ta ra m rc)) (fun s40 _ => n - (intOf s40).toNat)
  case atStart => exact ⟨0, r3, Nat.zero_le _, rfl, unhide HT3⟩
  case round =>
    obtain ⟨k, r4, hk, rfl, HI⟩ := hrel
    by_cases hlt : k < n
    · have hki : (k : Int) < (n : Int) := by omega
      have hfm : n ≤ 1099511627776 := unhide HFM
      have hkl : k < fl.length := by have := unhide Hn; omega
      have hlies := (unhide HH).fl.below (unhide HI).wn.below
      obtain ⟨g, o, hao, hr⟩ := hlies (by rw [flC_len]; simp only; omega)
      have cx := hr k _ (flC_get hkl)
      have hix := ixF g o n fc k hlt
      have HTK := hide (fltsB_take hkl)
      have HLK : Hid ((fltsB (fl.take k)).length ≤ 8796093022208) := by show _ ≤ _; rw [fltsB_len, List.length_take]; have := unhide HFM; omega
      clear hr hlies
      generalize fl[k] = x at *
      generalize o + k = oo at *
      generalize fltsB (fl.take k) = fb at *
      rw [hao]
      go_wp2_with (first
        | (go_at_call 80; refine (W.wFloat a r4 _ x wr (unhide HI).wn.wr (by have := unhide HLK; simp only [List.length_append, List.length_cons, List.length_nil]; omega)).mono ?_; rintro e W4 ⟨rfl, r5, hp4⟩; have HT4 := hide ((unhide HI).put hp4); clear hp4)
        | fail)
      go_roundw
      case rel => exact ⟨k + 1, r5, by omega, by go_num, by rw [unhide HTK, ← List.append_assoc, ← hao]; exact unhide HT4⟩
      case measure => simp [intOf]; omega
    · obtain rfl : k = n := by omega
      have hki : ¬ (k : Int) < (k : Int) := by omega
      have HI2 : Hid (Wn u wr u.heap.size a r4 TB) := by
        have := (unhide HI).wn
        rw [show fl.take k = fl by rw [unhide Hn]; exact List.take_length] at this
        rw [unhide HT]; exact this
      go_wp2_with (first
        | (go_at_call 81; refine (W.wTold a r4 TB wr (unhide HI2).wr).mono ?_; rintro e W5 ⟨rfl, rfl⟩)
        | fail)
      go_ret
      exact ⟨rfl, (unhide HI2).below⟩
end Go.Proofs.Ytpepgealeanecaa
