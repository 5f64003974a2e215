/- States: a sibling taken. -/
import Derived.Test.YtbahfpcfjhifbaaYo
namespace Go.Proofs.Ytbahfpcfjhifbaa
open Go.RowKit Go.Lib
/-- what is noted behind a mark -/
def markE (m : Nat) (e : Int) : Int := if m ≠ 0 ∧ m ≠ 1 then W.failE e 110 else e
/-- a sibling, as it is taken -/
def tkX (s : ByteArray) (p : Nat) (e : Int) : Sb × Nat × Int :=
  (⟨(W.uintS s p e 4294967295).1, (W.uintS s (W.uintS s p e 4294967295).2.1 (W.uintS s p e 4294967295).2.2 1099511627776).1,
    decide ((W.fixS s (W.uintS s (W.uintS s p e 4294967295).2.1 (W.uintS s p e 4294967295).2.2 1099511627776).2.1 (W.uintS s (W.uintS s p e 4294967295).2.1 (W.uintS s p e 4294967295).2.2 1099511627776).2.2 1).1 % 256 = 1),
    (W.textS s (W.fixS s (W.uintS s (W.uintS s p e 4294967295).2.1 (W.uintS s p e 4294967295).2.2 1099511627776).2.1 (W.uintS s (W.uintS s p e 4294967295).2.1 (W.uintS s p e 4294967295).2.2 1099511627776).2.2 1).2.1
      (markE ((W.fixS s (W.uintS s (W.uintS s p e 4294967295).2.1 (W.uintS s p e 4294967295).2.2 1099511627776).2.1 (W.uintS s (W.uintS s p e 4294967295).2.1 (W.uintS s p e 4294967295).2.2 1099511627776).2.2 1).1 % 256) (W.fixS s (W.uintS s (W.uintS s p e 4294967295).2.1 (W.uintS s p e 4294967295).2.2 1099511627776).2.1 (W.uintS s (W.uintS s p e 4294967295).2.1 (W.uintS s p e 4294967295).2.2 1099511627776).2.2 1).2.2) 40).1⟩,
    (W.textS s (W.fixS s (W.uintS s (W.uintS s p e 4294967295).2.1 (W.uintS s p e 4294967295).2.2 1099511627776).2.1 (W.uintS s (W.uintS s p e 4294967295).2.1 (W.uintS s p e 4294967295).2.2 1099511627776).2.2 1).2.1
      (markE ((W.fixS s (W.uintS s (W.uintS s p e 4294967295).2.1 (W.uintS s p e 4294967295).2.2 1099511627776).2.1 (W.uintS s (W.uintS s p e 4294967295).2.1 (W.uintS s p e 4294967295).2.2 1099511627776).2.2 1).1 % 256) (W.fixS s (W.uintS s (W.uintS s p e 4294967295).2.1 (W.uintS s p e 4294967295).2.2 1099511627776).2.1 (W.uintS s (W.uintS s p e 4294967295).2.1 (W.uintS s p e 4294967295).2.2 1099511627776).2.2 1).2.2) 40).2)
/-- the same with letters -/
theorem tkX_eq {s : ByteArray} {p : Nat} {e : Int} {xa px xc py xm pm : Nat} {ex ey em : Int} {tv : ByteArray} {pt : Nat} {et : Int} (h1 : W.uintS s p e 4294967295 = (xa, px, ex)) (h2 : W.uintS s px ex 1099511627776 = (xc, py, ey)) (h3 : W.fixS s py ey 1 = (xm, pm, em)) (h4 : W.textS s pm (markE (xm % 256) em) 40 = (tv, pt, et)) :
    tkX s p e = (⟨xa, xc, decide (xm % 256 = 1), tv⟩, pt, et) := by
  unfold tkX
  simp only [h1, h2, h3, h4]
/-- a reader with a block beside it -/
structure Rx (u w : World) (a : Nat) (s : ByteArray) (p : Nat) (e : Int) (M : Nat) (o : Obj) : Prop where
  rd : W.Rd w a s p e
  upd : W.Upd u w a a
  box : w.heap[M]? = some o
  na : M ≠ a
  lo : u.heap.size ≤ M
theorem Rx.step {u w w' : World} {a : Nat} {s : ByteArray} {p p' : Nat} {e e' : Int} {M : Nat} {o : Obj} (h : Rx u w a s p e M o) (hr : W.Rt w w' a s p' e') : Rx u w' a s p' e' M o :=
  ⟨hr.1, h.upd.trans hr.2 (.inl rfl), (hr.2.block M (Array.getElem?_eq_some_iff.1 h.box).1 h.na h.na).trans h.box, h.na, h.lo⟩
theorem Rx.row {u w : World} {a : Nat} {s : ByteArray} {p : Nat} {e : Int} {M : Nat} {o : Obj} (h : Rx u w a s p e M o) (cs : Array Value) : W.Rt u (w.setRow M cs) a s p e := by
  refine ⟨h.rd.same (by simp [World.setRow]) (heapRow_other _ _ _ _ (fun q => h.na q.symm)), h.upd.os, h.upd.tape, h.upd.output, by simpa [World.setRow] using h.upd.size, fun k hk h1 h2 => ?_⟩
  exact (heapRow_other _ _ _ _ (by have := h.lo; omega)).trans (h.upd.block k hk h1 h2)
theorem Rx.new {u w : World} {a : Nat} {s : ByteArray} {p : Nat} {e : Int} {N : Nat} {o : Obj} (h : W.Rd u a s p e) (hN : N = u.heap.size) (hb : Below N u w) (hx : w.heap[N]? = some o) : Rx u w a s p e N o := by
  subst hN
  exact ⟨Rd.below h hb, ⟨hb.os, hb.tape, hb.output, hb.size, fun k hk _ _ => hb.block k hk⟩, hx, by have := h.lt; omega, Nat.le_refl _⟩
theorem tkX_fit (s : ByteArray) (p : Nat) (e : Int) : (tkX s p e).1.Fit := by
  refine ⟨?_, ?_, ?_⟩
  · have := uintS_le s p e 4294967295
    show (W.uintS s p e 4294967295).1 < _
    omega
  · have := uintS_le s (W.uintS s p e 4294967295).2.1 (W.uintS s p e 4294967295).2.2 1099511627776
    show (W.uintS s (W.uintS s p e 4294967295).2.1 (W.uintS s p e 4294967295).2.2 1099511627776).1 < _
    omega
  · have key : ∀ (p : Nat) (e : Int), (W.textS s p e 40).1.size ≤ 140737488355328 := fun p e => by
      unfold W.textS
      rw [if_neg (by decide)]
      split
      · simp [ByteArray.size]
      · have h1 := W.rawS_size s (W.uintS s p e 40).2.1 (W.uintS s p e 40).2.2 (W.uintS s p e 40).1
        have h2 := uintS_le s p e 40
        have e1 : (40 : Int).toNat = 40 := rfl
        rw [e1]
        omega
    exact key _ _
set_option maxRecDepth 100000 in
set_option maxHeartbeats 4000000 in
theorem dTakeSib (a : Nat) (s : ByteArray) (p : Nat) (e : Int) (u : World) (h : W.Rd u a s p e) : Calls Try.prog 90 #[.pointer (some ⟨a, 0, none⟩)] u fun y u' => y = .returned (tkX s p e).1.v ∧ W.Rt u u' a s (tkX s p e).2.1 (tkX s p e).2.2 := by
  obtain ⟨N, hN⟩ : ∃ N, N = u.heap.size := ⟨_, rfl⟩
  have HN := hide hN
  have HR := hide h
  obtain ⟨xa, px, ex, h1⟩ : ∃ xa px ex, W.uintS s p e 4294967295 = (xa, px, ex) := ⟨_, _, _, rfl⟩
  obtain ⟨xc, py, ey, h2⟩ : ∃ xc py ey, W.uintS s px ex 1099511627776 = (xc, py, ey) := ⟨_, _, _, rfl⟩
  obtain ⟨xm, pm, em, h3⟩ : ∃ xm pm em, W.fixS s py ey 1 = (xm, pm, em) := ⟨_, _, _, rfl⟩
  obtain ⟨tv, pt, et, h4⟩ : ∃ tv pt et, W.textS s pm (markE (xm % 256) em) 40 = (tv, pt, et) := ⟨_, _, _, rfl⟩
  rw [tkX_eq h1 h2 h3 h4]
  have hxa : xa ≤ 4294967295 := by have := uintS_le s p e 4294967295; rw [h1] at this; exact this
  have hwx : IntKind.u32.wrap (xa : Int) = (xa : Int) := by rw [IntKind.wrap_u32]; omega
  have HU1 : Hid (∀ w : World, W.Rd w a s p e → Calls Try.prog 88 #[.pointer (some ⟨a, 0, none⟩), .int .u64 4294967295] w fun y w' => y = .returned (.int .u64 (xa : Int)) ∧ W.Rt w w' a s px ex) := fun w hw => by have := W.rUint a s p e 4294967295 w hw; rw [h1] at this; exact this
  have HU2 : Hid (∀ w : World, W.Rd w a s px ex → Calls Try.prog 88 #[.pointer (some ⟨a, 0, none⟩), .int .u64 1099511627776] w fun y w' => y = .returned (.int .u64 (xc : Int)) ∧ W.Rt w w' a s py ey) := fun w hw => by have := W.rUint a s px ex 1099511627776 w hw; rw [h2] at this; exact this
  have HBY : Hid (∀ w : World, W.Rd w a s py ey → Calls Try.prog 118 #[.pointer (some ⟨a, 0, none⟩)] w fun y w' => y = .returned (.int .u8 ((xm % 256 : Nat) : Int)) ∧ W.Rt w w' a s pm em) := fun w hw => by have := W.rByte a s py ey w hw; rw [h3] at this; exact this
  have HFL : Hid (∀ w : World, W.Rd w a s pm em → Calls Try.prog 116 #[.pointer (some ⟨a, 0, none⟩), .int .i64 110] w fun y w' => y = .returned (.tuple #[]) ∧ W.Rt w w' a s pm (W.failE em 110)) := fun w hw => W.rFail a s pm em 110 w hw
  have HTX : Hid (∀ w : World, W.Rd w a s pm (markE (xm % 256) em) → Calls Try.prog 119 #[.pointer (some ⟨a, 0, none⟩), .int .i64 40] w fun y w' => y = .returned (.string tv) ∧ W.Rt w w' a s pt et) := fun w hw => by have := W.rText a s pm (markE (xm % 256) em) 40 w hw (by decide); rw [h4] at this; exact this
  clear hN h h1 h2 h3 h4 hxa
  have hmk : xm % 256 < 256 := Nat.mod_lt _ (by decide)
  generalize xm % 256 = k at *
  by_cases h0 : k = 0 ∨ k = 1
  · have HME : Hid (markE k em = em) := by unfold markE; rw [if_neg (by omega)]; exact rfl
    rw [unhide HME] at HTX
    rcases h0 with rfl | rfl
    · clear hmk
      go_enter Try.func90, Try.ntmps90
      go_wp2_with (first
        | ((with_reducible refine wpList_alloc_sib (by rfl) (by rfl) (some 2) (by rfl) N (unhide HN) ?_); intro W1 HX1 HB1 HS1; simp only [Act.put, List.setIfInBounds_toArray, List.set_cons_zero, List.set_cons_succ]; have HT1 := hide (Rx.new (unhide HR) (unhide HN) (unhide HB1) (unhide HX1)))
        | (go_at_call 88; refine (unhide HU1 W1 (unhide HT1).rd).mono ?_; rintro y W2 ⟨rfl, hr⟩; have HT2 := hide ((unhide HT1).step hr); clear hr HU1)
        | (go_at_call 88; refine (unhide HU2 W2 (unhide HT2).rd).mono ?_; rintro y W3 ⟨rfl, hr⟩; have HT3 := hide ((unhide HT2).step hr); clear hr)
        | (go_at_call 118; refine (unhide HBY W3 (unhide HT3).rd).mono ?_; rintro y W4 ⟨rfl, hr⟩; have HT4 := hide ((unhide HT3).step hr); clear hr)
        | (go_at_call 119; refine (unhide HTX W4 (unhide HT4).rd).mono ?_; rintro y W5 ⟨rfl, hr⟩; have HT5 := hide ((unhide HT4).step hr); clear hr)
        | ((with_reducible refine wpList_store_sib (by rfl) (.tmp 2) (.tmp 30) (by rfl) N ⟨xa, xc, false, tv⟩ (by with_unfolding_all rfl) (by with_unfolding_all rfl) (unhide HT5).box ?_); intro W6 HX6 HE6; simp only [Act.put])
        | fail)
      refine bodyPost_ret (results_cell rfl _ _ N 56 #[.int .u32 (xa : Int), .int .u64 (xc : Int), .bool false, .string tv] (0, 0) _ rfl (unhide HX6) sibUnd rfl sibInfo) rfl ?_
      exact ⟨rfl, by rw [unhide HE6]; exact (unhide HT5).row _⟩
    · clear hmk
      go_enter Try.func90, Try.ntmps90
      go_wp2_with (first
        | ((with_reducible refine wpList_alloc_sib (by rfl) (by rfl) (some 2) (by rfl) N (unhide HN) ?_); intro W1 HX1 HB1 HS1; simp only [Act.put, List.setIfInBounds_toArray, List.set_cons_zero, List.set_cons_succ]; have HT1 := hide (Rx.new (unhide HR) (unhide HN) (unhide HB1) (unhide HX1)))
        | (go_at_call 88; refine (unhide HU1 W1 (unhide HT1).rd).mono ?_; rintro y W2 ⟨rfl, hr⟩; have HT2 := hide ((unhide HT1).step hr); clear hr HU1)
        | (go_at_call 88; refine (unhide HU2 W2 (unhide HT2).rd).mono ?_; rintro y W3 ⟨rfl, hr⟩; have HT3 := hide ((unhide HT2).step hr); clear hr)
        | (go_at_call 118; refine (unhide HBY W3 (unhide HT3).rd).mono ?_; rintro y W4 ⟨rfl, hr⟩; have HT4 := hide ((unhide HT3).step hr); clear hr)
        | (go_at_call 119; refine (unhide HTX W4 (unhide HT4).rd).mono ?_; rintro y W5 ⟨rfl, hr⟩; have HT5 := hide ((unhide HT4).step hr); clear hr)
        | ((with_reducible refine wpList_store_sib (by rfl) (.tmp 2) (.tmp 30) (by rfl) N ⟨xa, xc, true, tv⟩ (by with_unfolding_all rfl) (by with_unfolding_all rfl) (unhide HT5).box ?_); intro W6 HX6 HE6; simp only [Act.put])
        | fail)
      refine bodyPost_ret (results_cell rfl _ _ N 56 #[.int .u32 (xa : Int), .int .u64 (xc : Int), .bool true, .string tv] (0, 0) _ rfl (unhide HX6) sibUnd rfl sibInfo) rfl ?_
      exact ⟨rfl, by rw [unhide HE6]; exact (unhide HT5).row _⟩
  · have HME : Hid (markE k em = W.failE em 110) := by unfold markE; rw [if_pos (by omega)]; exact rfl
    rw [unhide HME] at HTX
    rw [decide_eq_false (show ¬ k = 1 by omega)]
    have hk0 : ((k : Int) == 0) = false := by simp; omega
    have hk1 : ((k : Int) == 1) = false := by simp; omega
    have hk2 : ¬ (k : Int) = 0 := by omega
    have hk3 : ¬ (k : Int) = 1 := by omega
    have hk4 : ¬ k = 0 := by omega
    have hk5 : ¬ k = 1 := by omega
    have hk6 : ((k : Int) != 0) = true := by simp; omega
    have hk7 : ((k : Int) != 1) = true := by simp; omega
    clear h0
    go_enter Try.func90, Try.ntmps90
    go_wp2_with (first
      | ((with_reducible refine wpList_alloc_sib (by rfl) (by rfl) (some 2) (by rfl) N (unhide HN) ?_); intro W1 HX1 HB1 HS1; simp only [Act.put, List.setIfInBounds_toArray, List.set_cons_zero, List.set_cons_succ]; have HT1 := hide (Rx.new (unhide HR) (unhide HN) (unhide HB1) (unhide HX1)))
      | (go_at_call 88; refine (unhide HU1 W1 (unhide HT1).rd).mono ?_; rintro y W2 ⟨rfl, hr⟩; have HT2 := hide ((unhide HT1).step hr); clear hr HU1)
      | (go_at_call 88; refine (unhide HU2 W2 (unhide HT2).rd).mono ?_; rintro y W3 ⟨rfl, hr⟩; have HT3 := hide ((unhide HT2).step hr); clear hr)
      | (go_at_call 118; refine (unhide HBY W3 (unhide HT3).rd).mono ?_; rintro y W4 ⟨rfl, hr⟩; have HT4 := hide ((unhide HT3).step hr); clear hr)
      | (go_at_call 116; refine (unhide HFL W4 (unhide HT4).rd).mono ?_; rintro y V4 ⟨rfl, hr⟩; have HQ4 := hide ((unhide HT4).step hr); clear hr)
      | (go_at_call 119; refine (unhide HTX V4 (unhide HQ4).rd).mono ?_; rintro y W5 ⟨rfl, hr⟩; have HT5 := hide ((unhide HQ4).step hr); clear hr)
      | ((with_reducible refine wpList_store_sib (by rfl) (.tmp 2) (.tmp 30) (by rfl) N ⟨xa, xc, false, tv⟩ (by with_unfolding_all rfl) (by with_unfolding_all rfl) (unhide HT5).box ?_); intro W6 HX6 HE6; simp only [Act.put])
      | fail)
    refine bodyPost_ret (results_cell rfl _ _ N 56 #[.int .u32 (xa : Int), .int .u64 (xc : Int), .bool false, .string tv] (0, 0) _ rfl (unhide HX6) sibUnd rfl sibInfo) rfl ?_
    exact ⟨rfl, by rw [unhide HE6]; exact (unhide HT5).row _⟩
end Go.Proofs.Ytbahfpcfjhifbaa
