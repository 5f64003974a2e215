/- Two values joined, without runes. -/
import Derived.Test.YtpepgealeanecaaGp
namespace Go.Proofs.Ytpepgealeanecaa
open Go.RowKit Go.Lib
/-- kinds that have no runes -/
structure Pl (t : Ty) : Prop where
  kind : t.k = 1 ∨ t.k = 2 ∨ t.k = 3 ∨ t.k = 5
  ru : t.ru = []
  mx : t.fl.length ≤ 2
theorem tat_own {w : World} {B n : Nat} {fa : Option Addr} {fc : Nat} {t : Ty} (ho : w.ownsRow B 36 1 (.slice fa n fc) n (flC t.fl)) (hb : ∀ b ∈ t.fl, b < 18446744073709551616) (hr : t.ru = []) (h1 : t.ta.length = 10) (h2 : ∀ x ∈ t.ta, x < 65536) (hn : n = t.fl.length) (hk : t.k < 256) (hf : t.fl.length ≤ 1099511627776) : TAt w t fa fc none 0 := by
  obtain ⟨k1, k2, k3, _⟩ := own_lies ho
  have q1 : Lies w none (ruC t.ru) := by rw [hr]; exact Lies.nil _ _
  have q2 : ∀ b ∈ t.ru, b < 1114112 := by rw [hr]; intro b hb; cases hb
  have q5 : t.ru.length ≤ 0 := by rw [hr]; exact Nat.le_refl _
  have q6 : t.ru.length ≤ 1099511627776 := by rw [hr]; decide
  exact ⟨hk, k1, q1, hb, q2, h1, h2, by omega, q5, k3, fun _ => rfl, hf, q6⟩
theorem grt_mem {l m : List Nat} (hl : ∀ b ∈ l, b < 18446744073709551616) (hm : ∀ b ∈ m, b < 18446744073709551616) : ∀ b ∈ List.zipWith grt l m, b < 18446744073709551616 := by
  intro x hx
  obtain ⟨i, hi, rfl⟩ := List.mem_iff_getElem.1 hx
  simp only [List.length_zipWith] at hi
  simp only [List.getElem_zipWith]
  have h1 := hl _ (List.getElem_mem (show i < l.length by omega))
  have h2 := hm _ (List.getElem_mem (show i < m.length by omega))
  unfold grt; split <;> omega
/-- what is kept of two that are joined -/
def JR (u u' : World) (e : Ending) (t : Ty) : Prop := ∃ go gc j, e = .returned (tyV t.k t.on go j gc t.ta none 0 0) ∧ j = t.fl.length ∧ u'.ownsRow u.heap.size 36 1 (.slice go j gc) j (flC t.fl) ∧ Below u.heap.size u u'
theorem tJoin (a b : Ty) (hk : b.k = a.k) (ha : Pl a) (hn2 : b.fl.length = a.fl.length) (fa : Option Addr) (fc : Nat) (fb : Option Addr) (fd n m : Nat) (hn : n = a.fl.length) (hm : m = b.fl.length) (u : World) (h : TAt u a fa fc none 0) (h2 : TAt u b fb fd none 0) :
    Calls Try.prog 63 #[tyV a.k a.on fa n fc a.ta none 0 0, tyV b.k b.on fb m fd b.ta none 0 0] u fun e u' => JR u u' e (jnT a b) := by
  have hz : (jnT a b).fl.length = a.fl.length := by simp [jnT, hn2]
  have hl := ha.mx
  rw [hk]
  obtain rfl : m = n := by omega
  cases hon : a.on with
  | false =>
    have q := tJoin_false a.k a.fl b.fl a.ta b.ta b.on h.tl h2.tl hn2 (by omega) h.fb h2.fb fa fc fb fd m hn u h.fl h2.fl
    refine q.mono fun e u' hh => ?_
    obtain ⟨go, gc, j, h1, h3, h4, h5⟩ := hh
    exact ⟨go, gc, j, by rw [h1, show (jnT a b).on = (a.on || b.on) from rfl, hon]; rfl, by rw [hz]; exact h3, h4, h5⟩
  | true =>
    have q := tJoin_true a.k a.fl b.fl a.ta b.ta b.on h.tl h2.tl hn2 (by omega) h.fb h2.fb fa fc fb fd m hn u h.fl h2.fl
    refine q.mono fun e u' hh => ?_
    obtain ⟨go, gc, j, h1, h3, h4, h5⟩ := hh
    exact ⟨go, gc, j, by rw [h1, show (jnT a b).on = (a.on || b.on) from rfl, hon]; rfl, by rw [hz]; exact h3, h4, h5⟩
theorem pl_told {t : Ty} (h : Pl t) : t.k = 1 ∨ t.k = 2 ∨ t.k = 3 ∨ t.k = 4 ∨ t.k = 5 := by rcases h.kind with h | h | h | h <;> simp [h]
set_option maxRecDepth 100000 in
set_option maxHeartbeats 4000000 in
theorem tBounded (t : Ty) (hp : Pl t) (hs : (toldM t).length ≤ 40) (fa : Option Addr) (fc n : Nat) (hn : n = t.fl.length) (u : World) (h : TAt u t fa fc none 0) :
    Calls Try.prog 59 #[tyV t.k t.on fa n fc t.ta none 0 0] u fun e u' => e = .returned (.tuple #[.string (tS t), .int .i64 0]) ∧ Below u.heap.size u u' := by
  have HTO : Hid (∀ w : World, TAt w t fa fc none 0 → Calls Try.prog 52 #[tyV t.k t.on fa n fc t.ta none 0 0] w fun e w' => e = .returned (.string (tS t)) ∧ Below w.heap.size w w') := fun w hh => tTold t (pl_told hp) fa fc none 0 n 0 hn (by rw [hp.ru]; rfl) w hh
  have HA := hide h
  have HTL : Hid (t.ta.length = 10) := h.tl
  have hsz : ¬ (40 : Int) < ((tS t).size : Int) := by rw [tS_size]; omega
  have HB : Hid (∀ w', Below u.heap.size u w' → TAt w' t fa fc none 0) := fun w' hb => (unhide HA).below hb
  clear h hn hs hp
  generalize tS t = S at *
  obtain ⟨k, on, fl, ta, ru⟩ := t
  simp only at HTO HTL ⊢
  obtain ⟨N, hN⟩ : ∃ N, N = u.heap.size := ⟨_, rfl⟩
  have HN := hide hN
  clear hN
  go_enter Try.func59, Try.ntmps59
  go_wp2_with (first
    | ((with_reducible refine wpList_box_ty (by rfl) (.tmp 0) (by rfl) (some 1) (by rfl) N (unhide HN) k on fa n fc ta none 0 0 (by with_unfolding_all rfl) (unhide HTL) ?_); intro W1 HX1 HB1 HS1; simp only [Act.put, List.setIfInBounds_toArray, List.set_cons_zero, List.set_cons_succ]; have HB2 : Hid (Below u.heap.size u W1) := (by rw [← unhide HN]; exact unhide HB1))
    | ((with_reducible refine wpList_load_ty (by rfl) (.tmp 1) (by rfl) (some 5) (by rfl) N (by with_unfolding_all rfl) (unhide HX1) ?_); simp only [Act.put, List.setIfInBounds_toArray, List.set_cons_zero, List.set_cons_succ])
    | (go_at_call 52; refine (unhide HTO W1 (unhide HB W1 (unhide HB2))).mono ?_; rintro e W2 ⟨rfl, hb⟩; have HB3 := hide ((unhide HB2).trans (hb.mono (unhide HB2).size)); clear hb)
    | fail)
  go_ret2
  exact ⟨rfl, unhide HB3⟩
theorem ixST (g i n c : Nat) (hi : i < n) (o : Nat) (W : World) : (Instr.indexAt 102 (.slice (some ⟨g, o, none⟩) n c) (.int .i64 (i : Int))).run Try.prog W = .ok (.pointer (some ⟨g, o + i, none⟩)) W := by
  have he : Try.prog.elem 102 = 9 := by kernel_rfl
  rw [run_indexAt_slice W 102 _ _ _ _ _ (by rw [he]; kernel_rfl), if_pos ⟨by omega, by omega⟩, he, sizeN (n := 1) (by kernel_rfl)]
  simp only [Result.andThen_ok, Int.toNat_natCast, Addr.add_mid, Nat.mul_one]
theorem tailST (g : Nat) (W : World) : (Instr.slice 102 (.slice (some ⟨g, 0, none⟩) 2 2) (some (.int .i64 1)) none none).run Try.prog W = .ok (.slice (some ⟨g, 1, none⟩) 1 1) W := by
  have he : Try.prog.elem 102 = 9 := by kernel_rfl
  rw [run_slice_l W 102 _ _ _ (by rw [he]; kernel_rfl) .i64 1 (by omega) (by omega), he, sizeN (n := 1) (by kernel_rfl)]
  simp only [Result.andThen_ok, sliced, Option.map_some, Addr.add_mid]
  rfl
/-- the variable that holds what was joined so far -/
structure Ja (u w : World) (M : Nat) (t : Ty) (fa : Option Addr) (n fc : Nat) : Prop where
  bt : Bt w M t.k t.on fa n fc t.ta none 0 0
  at_ : TAt w t fa fc none 0
  bl : Below u.heap.size u w
  le : n = t.fl.length
  hM : u.heap.size ≤ M
theorem Ja.belw {u w w' : World} {M : Nat} {t : Ty} {fa : Option Addr} {n fc : Nat} (h : Ja u w M t fa n fc) (hb : Below w.heap.size w w') : Ja u w' M t fa n fc :=
  ⟨h.bt.below hb, h.at_.below hb, h.bl.trans (hb.mono h.bl.size), h.le, h.hM⟩
set_option maxRecDepth 100000 in
set_option maxHeartbeats 8000000 in
theorem kJoin2 (s1 s2 : ByteArray) (a b : Ty) (ht1 : Takes s1 (some a)) (ht2 : Takes s2 (some b)) (hk : b.k = a.k) (ha : Pl a) (hb : Pl b) (hn2 : b.fl.length = a.fl.length) (hs : (toldM (jnT a b)).length ≤ 40) (g : Nat) (u : World) (hr : u.rangeAt g 0 [.string s1, .string s2]) :
    Calls Try.prog 40 #[.slice (some ⟨g, 0, none⟩) 2 2] u fun e u' => e = .returned (.tuple #[.string (tS (jnT a b)), .int .i64 0]) ∧ Below u.heap.size u u' := by
  have HPJ : Hid (Pl (jnT a b)) := ⟨ha.kind, rfl, by have := ha.mx; simp [jnT]; omega⟩
  have HT1 : Hid (∀ u : World, Calls Try.prog 43 #[.string s1] u fun z u' => ∃ fa fc n, z = .returned (.tuple #[tyV a.k a.on fa n fc a.ta none 0 0, .bool true]) ∧ n = a.fl.length ∧ TAt u' a fa fc none 0 ∧ Below u.heap.size u u') := fun u => (ht1 u).mono fun z u' hh => by
    obtain ⟨v, h1, fa, fc, ra, rc, n, m, h2, h3, h4, h5, h6, h7, h8, h9⟩ := hh
    obtain ⟨rfl, rfl⟩ := h9 ha.ru
    rw [ha.ru] at h4
    obtain rfl : m = 0 := h4
    exact ⟨fa, fc, n, by rw [h1, h2], h3, h5, h6⟩
  have HT2 : Hid (∀ u : World, Calls Try.prog 50 #[.string s2, .int .u8 (a.k : Int)] u fun z u' => ∃ fa fc n, z = .returned (.tuple #[tyV b.k b.on fa n fc b.ta none 0 0, .int .i64 0]) ∧ n = b.fl.length ∧ TAt u' b fa fc none 0 ∧ Below u.heap.size u u') := fun u => by
    have q := kAsYes s2 b ht2 u
    rw [hk] at q
    refine q.mono fun z u' hh => ?_
    obtain ⟨v, h1, fa, fc, ra, rc, n, m, h2, h3, h4, h5, h6, h7, h8, h9⟩ := hh
    obtain ⟨rfl, rfl⟩ := h9 hb.ru
    rw [hb.ru] at h4
    obtain rfl : m = 0 := h4
    exact ⟨fa, fc, n, by rw [h1, h2], h3, h5, h6⟩
  have HJN : Hid (∀ (w : World) (fa : Option Addr) (fc : Nat) (fb : Option Addr) (fd n m : Nat), n = a.fl.length → m = b.fl.length → TAt w a fa fc none 0 → TAt w b fb fd none 0 → Calls Try.prog 63 #[tyV a.k a.on fa n fc a.ta none 0 0, tyV b.k b.on fb m fd b.ta none 0 0] w fun e w' => ∃ go gc j, e = .returned (tyV (jnT a b).k (jnT a b).on go j gc (jnT a b).ta none 0 0) ∧ j = (jnT a b).fl.length ∧ w'.ownsRow w.heap.size 36 1 (.slice go j gc) j (flC (jnT a b).fl) ∧ Below w.heap.size w w') := fun w fa fc fb fd n m q1 q2 q3 q4 => tJoin a b hk ha hn2 fa fc fb fd n m q1 q2 w q3 q4
  have HBD : Hid (∀ (w : World) (fa : Option Addr) (fc n : Nat), n = (jnT a b).fl.length → TAt w (jnT a b) fa fc none 0 → Calls Try.prog 59 #[tyV (jnT a b).k (jnT a b).on fa n fc (jnT a b).ta none 0 0] w fun e w' => e = .returned (.tuple #[.string (tS (jnT a b)), .int .i64 0]) ∧ Below w.heap.size w w') := fun w fa fc n q1 q2 => tBounded (jnT a b) (unhide HPJ) hs fa fc n q1 w q2
  have HTJ : Hid (∀ (w : World) (B n : Nat) (fa : Option Addr) (fc : Nat) (w1 : World) (f1 : Option Addr) (c1 : Nat) (w2 : World) (f2 : Option Addr) (c2 : Nat), TAt w1 a f1 c1 none 0 → TAt w2 b f2 c2 none 0 → w.ownsRow B 36 1 (.slice fa n fc) n (flC (jnT a b).fl) → n = (jnT a b).fl.length → TAt w (jnT a b) fa fc none 0) := fun w B n fa fc w1 f1 c1 w2 f2 c2 q1 q2 q3 q4 => tat_own q3 (grt_mem q1.fb q2.fb) rfl (tjn_len q1.tl q2.tl) (tjn_bd q1.tb q2.tb) q4 (show a.k < 256 from q1.kind) (by have := (unhide HPJ).mx; omega)
  have HS1 : Hid (u.cell? ⟨g, 0, none⟩ = some (.string s1)) := hr 0 _ rfl
  have HS2 : Hid (u.cell? ⟨g, 1, none⟩ = some (.string s2)) := hr 1 _ rfl
  clear hr hs hn2 ht1 ht2
  generalize tS (jnT a b) = SJ at *
  generalize jnT a b = t at *
  have HL1 : Hid (∀ (w : World) fa fc, TAt w a fa fc none 0 → a.ta.length = 10) := fun w fa fc h => h.tl
  have HL2 : Hid (∀ (w : World) fa fc, TAt w b fa fc none 0 → b.ta.length = 10) := fun w fa fc h => h.tl
  have HL3 : Hid (∀ (w : World) fa fc, TAt w t fa fc none 0 → t.ta.length = 10) := fun w fa fc h => h.tl
  clear ha hb hk
  have c0 := unhide HS1
  have hix : ∀ W : World, (Instr.indexAt 102 (.slice (some ⟨g, 0, none⟩) 2 2) (.int .i64 0)).run Try.prog W = .ok (.pointer (some ⟨g, 0, none⟩)) W := fun W => ixST g 0 2 2 (by decide) 0 W
  have htl := tailST g
  have hc1 : ∀ W : World, Below u.heap.size u W → W.cell? ⟨g, 1, none⟩ = some (.string s2) := fun W hW => (hW.cell (p := ⟨g, 1, none⟩) (World.block_lt_of_cell? u _ (unhide HS2))).trans (unhide HS2)
  have HC1 := hide hc1
  clear hc1
  go_enter Try.func40, Try.ntmps40
  go_wp2_with (first
    | (go_at_call 43; refine (unhide HT1 u).mono ?_; rintro e W1 ⟨fa, fc, n, rfl, hn1, hta1, hb1⟩; have HN1 := hide hn1; have HA1 := hide hta1; have HB1 := hide hb1; clear hn1 hta1 hb1; obtain ⟨M, hM⟩ : ∃ M, M = W1.heap.size := ⟨_, rfl⟩; have HM := hide hM; clear hM)
    | ((with_reducible refine wpList_alloc_ty (by rfl) (by rfl) (some 4) (by rfl) M (unhide HM) ?_); intro W2 HX2 HB2 HS2'; simp only [Act.put, List.setIfInBounds_toArray, List.set_cons_zero, List.set_cons_succ])
    | ((with_reducible refine wpList_store_ty (by rfl) (.tmp 4) (.tmp 18) (by rfl) M a.k a.on fa n fc a.ta none 0 0 (by with_unfolding_all rfl) (by with_unfolding_all rfl) (unhide HL1 _ _ _ (unhide HA1)) (unhide HX2) ?_); intro W3 HX3 HE3 HS3 HO3; simp only [Act.put])
    | fail)
  have HB13 : Hid (Below W1.heap.size W1 W3) := by have := unhide HE3 M W1 (Nat.le_refl _) (unhide HB2); rw [unhide HM] at this; exact this
  have HI0 : Hid (Ja u W3 M a fa n fc) := ⟨unhide HX3, (unhide HA1).below (unhide HB13), (unhide HB1).trans ((unhide HB13).mono (unhide HB1).size), unhide HN1, by rw [unhide HM]; exact (unhide HB1).size⟩
  clear HX2 HB2 HS2' HX3 HE3 HS3 HO3 HB13 HA1 HB1 HM c0
  go_loopw [25] (fun s25 wr => ∃ k : Nat, s25 = .int .i64 k ∧ ((k = 0 ∧ Hid (∃ fa n fc, Ja u wr M a fa n fc)) ∨ (k = 1 ∧ Hid (∃ fa n fc, Ja u wr M t fa n fc)))) (fun s25 _ => 1 - (intOf s25).toNat)
  case atStart => exact ⟨0, rfl, .inl ⟨rfl, fa, n, fc, unhide HI0⟩⟩
  case round =>
    obtain ⟨k, rfl, hh⟩ := hrel
    clear HI0 HN1
    rcases hh with ⟨rfl, HI⟩ | ⟨rfl, HI⟩
    · obtain ⟨fa1, n1, fc1, hI⟩ := unhide HI
      have HI1 := hide hI
      clear hI HI
      have hki : (0 : Int) < 1 := by omega
      have c0 := (unhide HI1).bt.c0
      have c1 := unhide HC1 wr (unhide HI1).bl
      have hix1 : ∀ W : World, (Instr.indexAt 102 (.slice (some ⟨g, 1, none⟩) 1 1) (.int .i64 0)).run Try.prog W = .ok (.pointer (some ⟨g, 1, none⟩)) W := fun W => ixST g 0 1 1 (by decide) 1 W
      obtain ⟨wr0, hwr0⟩ : ∃ x, x = wr := ⟨_, rfl⟩
      rw [← hwr0] at HI1 c0 c1 ⊢
      clear hwr0
      go_wp2_with (first
        | (go_at_call 50; refine (unhide HT2 wr0).mono ?_; rintro e W4 ⟨fb, fd, m, rfl, hm4, hA4, hb4⟩; have HM4 := hide hm4; have HA4 := hide hA4; have HI4 := hide ((unhide HI1).belw hb4); clear hm4 hA4 hb4 c0; obtain ⟨M2, hM2⟩ : ∃ x, x = W4.heap.size := ⟨_, rfl⟩; have HM2 := hide hM2; clear hM2)
        | ((with_reducible refine wpList_alloc_ty (by rfl) (by rfl) (some 8) (by rfl) M2 (unhide HM2) ?_); intro W5 HX5 HB5 HS5; simp only [Act.put, List.setIfInBounds_toArray, List.set_cons_zero, List.set_cons_succ])
        | ((with_reducible refine wpList_store_ty (by rfl) (.tmp 8) (.tmp 34) (by rfl) M2 b.k b.on fb m fd b.ta none 0 0 (by with_unfolding_all rfl) (by with_unfolding_all rfl) (unhide HL2 _ _ _ (unhide HA4)) (unhide HX5) ?_); intro W6 HX6 HE6 HS6 HO6; simp only [Act.put]; have HB46 : Hid (Below W4.heap.size W4 W6) := (by have := unhide HE6 M2 W4 (Nat.le_refl _) (unhide HB5); rw [unhide HM2] at this; exact this); have HI6 := hide ((unhide HI4).belw (unhide HB46)); have HA6 := hide ((unhide HA4).below (unhide HB46)))
        | ((with_reducible refine wpList_load_ty (by rfl) (.tmp 4) (by rfl) (some 39) (by rfl) M (by with_unfolding_all rfl) (unhide HI6).bt ?_); simp only [Act.put, List.setIfInBounds_toArray, List.set_cons_zero, List.set_cons_succ])
        | ((with_reducible refine wpList_load_ty (by rfl) (.tmp 8) (by rfl) (some 40) (by rfl) M2 (by with_unfolding_all rfl) (unhide HX6) ?_); simp only [Act.put, List.setIfInBounds_toArray, List.set_cons_zero, List.set_cons_succ])
        | (go_at_call 63; refine (unhide HJN W6 _ _ _ _ _ _ (unhide HI6).le (unhide HM4) (unhide HI6).at_ (unhide HA6)).mono ?_; rintro e W7 ⟨go, gc, j, rfl, hj7, ho7, hb7⟩; have HJ7 := hide hj7; have HO7 := hide ho7; have HI7 := hide ((unhide HI6).belw hb7); have HT7 := hide (unhide HTJ W7 _ _ _ _ _ _ _ _ _ _ (unhide HI6).at_ (unhide HA6) ho7 hj7); clear hj7 ho7 hb7)
        | ((with_reducible refine wpList_store_ty (by rfl) (.tmp 4) (.tmp 41) (by rfl) M t.k t.on go j gc t.ta none 0 0 (by with_unfolding_all rfl) (by with_unfolding_all rfl) (unhide HL3 _ _ _ (unhide HT7)) (unhide HI7).bt ?_); intro W8 HX8 HE8 HS8 HO8; simp only [Act.put])
        | fail)
      go_roundw
      case rel =>
        refine ⟨1, by go_num, .inr ⟨rfl, go, j, gc, unhide HX8, ?_, unhide HE8 _ _ (unhide HI7).hM (unhide HI7).bl, unhide HJ7, (unhide HI7).hM⟩⟩
        refine unhide HTJ W8 W6.heap.size _ _ _ _ _ _ _ _ _ (unhide HI6).at_ (unhide HA6) (own_keep (unhide HO7) fun i hi => unhide HO8 i ?_) (unhide HJ7)
        have h0 := World.ownsRow.lt (unhide HO7) i hi
        have h1 := (unhide HI6).bt.lt
        omega
      case measure => simp [intOf]
    · obtain ⟨fa1, n1, fc1, hI⟩ := unhide HI
      have HI1 := hide hI
      clear hI HI
      have hki : ¬ (1 : Int) < 1 := by omega
      go_wp2_with (first
        | ((with_reducible refine wpList_load_ty (by rfl) (.tmp 4) (by rfl) (some 43) (by rfl) M (by with_unfolding_all rfl) (unhide HI1).bt ?_); simp only [Act.put, List.setIfInBounds_toArray, List.set_cons_zero, List.set_cons_succ])
        | (go_at_call 59; refine (unhide HBD wr _ _ _ (unhide HI1).le (unhide HI1).at_).mono ?_; rintro e W9 ⟨rfl, hb9⟩; have HB9 := hide ((unhide HI1).bl.trans (hb9.mono (unhide HI1).bl.size)); clear hb9)
        | fail)
      go_ret2
      exact ⟨rfl, unhide HB9⟩
theorem bsS2 (W : World) (x y : ByteArray) : (Instr.buildSlice 102 2 #[(0, .string x), (1, .string y)]).run Try.prog W = .ok (.slice (some ⟨W.heap.size, 0, none⟩) 2 2) (W.alloc (.cells #[.string x, .string y] 9)) := by kernel_rfl
theorem ss_new (W : World) (x y : ByteArray) (t : TypeId) : (W.alloc (.cells #[.string x, .string y] t)).rangeAt W.heap.size 0 [.string x, .string y] := fun j v hv => by
  have h1 : (W.alloc (.cells #[.string x, .string y] t)).heap[W.heap.size]? = some (.cells #[.string x, .string y] t (0, 0)) := heap_alloc_new _ _
  simp only [World.cell?, h1, Nat.zero_add]
  simpa using hv
/-- two values that are joined: Join -/
structure Jo (s1 s2 : ByteArray) (a b : Ty) : Prop where
  t1 : Takes s1 (some a)
  t2 : Takes s2 (some b)
  hk : b.k = a.k
  pa : Pl a
  pb : Pl b
  n2 : b.fl.length = a.fl.length
  sz : (toldM (jnT a b)).length ≤ 40
set_option maxRecDepth 100000 in
set_option maxHeartbeats 4000000 in
theorem kJoin (s1 s2 : ByteArray) (a b : Ty) (h : Jo s1 s2 a b) (u : World) : Calls Try.prog 11 #[.string s1, .string s2] u fun e u' => e = .returned (.tuple #[.string (tS (jnT a b)), .int .i64 0]) ∧ Below u.heap.size u u' := by
  have HJ : Hid (Calls Try.prog 40 #[.slice (some ⟨u.heap.size, 0, none⟩) 2 2] (u.alloc (.cells #[.string s1, .string s2] 9)) fun e u' => e = .returned (.tuple #[.string (tS (jnT a b)), .int .i64 0]) ∧ Below (u.alloc (.cells #[.string s1, .string s2] 9)).heap.size (u.alloc (.cells #[.string s1, .string s2] 9)) u') := kJoin2 s1 s2 a b h.t1 h.t2 h.hk h.pa h.pb h.n2 h.sz u.heap.size _ (ss_new u s1 s2 9)
  have HB0 : Hid (Below u.heap.size u (u.alloc (.cells #[.string s1, .string s2] 9))) := (Below.refl _ _).alloc (Nat.le_refl _) _
  clear h
  generalize tS (jnT a b) = S at *
  go_enter Try.func11, Try.ntmps11
  go_wp2_with (first
    | (go_at_call 40; refine (unhide HJ).mono ?_; rintro e W1 ⟨rfl, hb⟩; have HB1 := hide ((unhide HB0).trans (hb.mono (unhide HB0).size)); clear hb)
    | fail)
  go_ret2
  exact ⟨rfl, unhide HB1⟩
set_option maxRecDepth 100000 in
set_option maxHeartbeats 4000000 in
theorem kBelow (s1 s2 : ByteArray) (a b : Ty) (h : Jo s1 s2 a b) (r : Bool) (hr : decide (toldM (jnT a b) = s2.data.toList) = r) (u : World) : Calls Try.prog 15 #[.string s1, .string s2] u fun e u' => e = .returned (.bool r) ∧ Below u.heap.size u u' := by
  have HJ := hide (kJoin s1 s2 a b h u)
  have hq : ((tS (jnT a b)).toList == s2.toList) = r := by rw [← hr]; exact str_beq (toldM (jnT a b)) s2
  clear h hr
  generalize tS (jnT a b) = S at *
  go_enter Try.func15, Try.ntmps15
  go_wp2_with (first
    | (go_at_call 11; refine (unhide HJ).mono ?_; rintro e W1 ⟨rfl, hb⟩; have HB1 := hide hb; clear hb)
    | fail)
  go_ret
  exact ⟨rfl, unhide HB1⟩
end Go.Proofs.Ytpepgealeanecaa
