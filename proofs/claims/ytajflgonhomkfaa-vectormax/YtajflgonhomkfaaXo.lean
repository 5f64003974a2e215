/- Vectors: Take, Decode. -/
import Derived.Test.YtajflgonhomkfaaXn
namespace Go.Proofs.Ytajflgonhomkfaa
open Go.RowKit

/-- what Take leaves as error -/
noncomputable def takeE (s : ByteArray) (p : Nat) (e : Int) : Int := if V.okB (tkV s p e).1 then (tkV s p e).2.2 else W.failE (tkV s p e).2.2 100
/-- what Take answers -/
noncomputable def takeL (s : ByteArray) (p : Nat) (e : Int) : List (Nat × Nat) := if takeE s p e = 0 then (tkV s p e).1 else []
theorem Tk.none {u w : World} {N a : Nat} {s : ByteArray} {p : Nat} {e : Int} {l : List (Nat × Nat)} {ao : Option Addr} {c : Nat} (h : Tk u w N a s p e l ao c) : Tk u w N a s p e [] none 0 := ⟨World.ownsRow_nil _ _ _ _, h.rd, h.upd⟩
set_option maxRecDepth 100000 in
set_option maxHeartbeats 4000000 in
theorem vTake (a : Nat) (s : ByteArray) (p : Nat) (e : Int) (u : World) (h : W.Rd u a s p e) :
    Calls Try.prog 11 #[.pointer (some ⟨a, 0, none⟩)] u fun x u' => ∃ ao c, x = .returned (.slice ao (takeL s p e).length c) ∧ Tk u u' u.heap.size a s (tkV s p e).2.1 (takeE s p e) (takeL s p e) ao c := by
  have H1 := hide (vTakeDots a s p e u h)
  have HF := hide (tkV_fits s p e)
  have HE : Hid (∀ (w : World) (p : Nat) (e : Int), W.Rd w a s p e → Calls Try.prog 34 #[.pointer (some ⟨a, 0, none⟩)] w fun x w' => x = .returned (.int .i64 e) ∧ w' = w) := fun w p e h => W.rErr a s p e w h
  have HFL : Hid (∀ (w : World) (p : Nat) (e : Int), W.Rd w a s p e → Calls Try.prog 32 #[.pointer (some ⟨a, 0, none⟩), .int .i64 100] w fun y w' => y = .returned (.tuple #[]) ∧ W.Rt w w' a s p (W.failE e 100)) := fun w p e h => W.rFail a s p e 100 w h
  have HAN := hide h.lt
  obtain ⟨N, hN⟩ : ∃ N, N = u.heap.size := ⟨_, rfl⟩
  have HN := hide hN
  rw [← hN] at H1 HAN ⊢
  clear hN h
  have HTE : Hid (takeE s p e = if V.okB (tkV s p e).1 then (tkV s p e).2.2 else W.failE (tkV s p e).2.2 100) := rfl
  have HTL : Hid (takeL s p e = if takeE s p e = 0 then (tkV s p e).1 else []) := rfl
  generalize takeE s p e = E at *
  generalize takeL s p e = L at *
  generalize tkV s p e = t at *
  obtain ⟨l, q, f⟩ := t
  have H1 : Hid (Calls Try.prog 47 #[.pointer (some ⟨a, 0, none⟩)] u fun x u' => ∃ ao c, x = .returned (.slice ao l.length c) ∧ Tk u u' N a s q f l ao c) := H1
  have HF : Hid (Fits l ∧ l.length ≤ 64) := HF
  have HTE : Hid (E = if V.okB l then f else W.failE f 100) := HTE
  have HTL : Hid (L = if E = 0 then l else []) := HTL
  have HV : Hid (∀ (w : World) (ao : Option Addr) (c : Nat), Tk u w N a s q f l ao c → Calls Try.prog 41 #[.slice ao l.length c] w fun e u' => e = .returned (.bool (V.okB l)) ∧ Below w.heap.size w u') := fun w ao c ht => vValid l ao c w ⟨ht.own.dv.lies, (unhide HF).1, len_small (Nat.le_trans (unhide HF).2 (by decide))⟩
  show Calls Try.prog 11 #[.pointer (some ⟨a, 0, none⟩)] u fun x u' => ∃ ao c, x = .returned (.slice ao L.length c) ∧ Tk u u' N a s q E L ao c
  cases hok : V.okB l with
  | true =>
    have HEE : Hid (E = f) := by rw [unhide HTE, hok]; exact rfl
    rw [hok] at HV
    by_cases hf : f = 0
    · have HLL : Hid (L = l) := by rw [unhide HTL, unhide HEE, if_pos hf]; exact rfl
      subst hf
      go_enter Try.func11, Try.ntmps11
      go_wp2_with (first
        | (go_at_call 47; refine (unhide H1).mono ?_; rintro e w1 ⟨ao, c, rfl, ht⟩; have HT1 := hide ht; clear ht)
        | (go_at_call 41; refine (unhide HV _ _ _ (unhide HT1)).mono ?_; rintro e w2 ⟨rfl, hb2⟩; have HT2 := hide ((unhide HT1).belw hb2); clear hb2)
        | (go_at_call 34; refine (unhide HE _ _ _ (unhide HT2).rd).mono ?_; rintro y w3 ⟨rfl, hw3⟩; obtain rfl := hw3.symm; clear hw3)
        | fail)
      go_ret
      exact ⟨ao, c, by rw [unhide HLL]; rfl, by rw [unhide HLL, unhide HEE]; exact unhide HT2⟩
    · have HLL : Hid (L = []) := by rw [unhide HTL, unhide HEE, if_neg hf]; exact rfl
      go_enter Try.func11, Try.ntmps11
      go_wp2_with (first
        | (go_at_call 47; refine (unhide H1).mono ?_; rintro e w1 ⟨ao, c, rfl, ht⟩; have HT1 := hide ht; clear ht)
        | (go_at_call 41; refine (unhide HV _ _ _ (unhide HT1)).mono ?_; rintro e w2 ⟨rfl, hb2⟩; have HT2 := hide ((unhide HT1).belw hb2); clear hb2)
        | (go_at_call 34; refine (unhide HE _ _ _ (unhide HT2).rd).mono ?_; rintro y w3 ⟨rfl, hw3⟩; obtain rfl := hw3.symm; clear hw3)
        | fail)
      go_ret
      exact ⟨none, 0, by rw [unhide HLL]; rfl, by rw [unhide HLL, unhide HEE]; exact (unhide HT2).none⟩
  | false =>
    have HEE : Hid (E = W.failE f 100) := by rw [unhide HTE, hok]; exact rfl
    rw [hok] at HV
    have HNZ : Hid (E ≠ 0) := by
      rw [unhide HEE]; unfold W.failE; split
      · exact (by decide : (100 : Int) ≠ 0)
      · assumption
    have HLL : Hid (L = []) := by rw [unhide HTL, if_neg (unhide HNZ)]; exact rfl
    have HFL : Hid (∀ (w : World), W.Rd w a s q f → Calls Try.prog 32 #[.pointer (some ⟨a, 0, none⟩), .int .i64 100] w fun y w' => y = .returned (.tuple #[]) ∧ W.Rt w w' a s q E) := fun w h => by rw [unhide HEE]; exact unhide HFL w q f h
    have hnz : ¬ E = 0 := unhide HNZ
    go_enter Try.func11, Try.ntmps11
    go_wp2_with (first
      | (go_at_call 47; refine (unhide H1).mono ?_; rintro e w1 ⟨ao, c, rfl, ht⟩; have HT1 := hide ht; clear ht)
      | (go_at_call 41; refine (unhide HV _ _ _ (unhide HT1)).mono ?_; rintro e w2 ⟨rfl, hb2⟩; have HT2 := hide ((unhide HT1).belw hb2); clear hb2)
      | (go_at_call 32; refine (unhide HFL _ (unhide HT2).rd).mono ?_; rintro y w3 ⟨rfl, hr3⟩; have HT3 := hide ((unhide HT2).step hr3 (unhide HAN)); clear hr3)
      | (go_at_call 34; refine (unhide HE _ _ _ (unhide HT3).rd).mono ?_; rintro y w4 ⟨rfl, hw4⟩; obtain rfl := hw4.symm; clear hw4)
      | fail)
    go_ret
    exact ⟨none, 0, by rw [unhide HLL]; rfl, by rw [unhide HLL]; exact (unhide HT3).none⟩
/-- what Decode answers -/
noncomputable def decV (s : ByteArray) : List (Nat × Nat) × Int := if W.endE s.size (tkV s 0 0).2.1 (takeE s 0 0) = 0 then (takeL s 0 0, 0) else ([], 100)
set_option maxRecDepth 100000 in
set_option maxHeartbeats 4000000 in
theorem vDecode (s : ByteArray) (u : World) (hs : s.size ≤ 140737488355328) :
    Calls Try.prog 29 #[.string s] u fun x u' => ∃ ao c, x = .returned (.tuple #[.slice ao (decV s).1.length c, .int .i64 (decV s).2]) ∧ OwnD u' u.heap.size (decV s).1 ao c ∧ Below u.heap.size u u' := by
  have HNR := hide (W.rNew s u)
  have HRD := hide (W.Rd.new s u 75 (Nat.le_trans hs (by decide)))
  have HT := hide (fun (a : Nat) (w : World) (h : W.Rd w a s 0 0) => vTake a s 0 0 w h)
  have HEN : Hid (∀ (a : Nat) (w : World) (p : Nat) (e : Int), W.Rd w a s p e → Calls Try.prog 36 #[.pointer (some ⟨a, 0, none⟩)] w fun x w' => x = .returned (.int .i64 (W.endE s.size p e)) ∧ ∃ n, w' = w.drewN n) := fun a w p e h => W.rEnd a s p e w h
  have HB0 : Hid (Below u.heap.size u (u.alloc (.cells #[.string s, .int .i64 0, .int .i64 0] 75))) := (Below.refl _ _).alloc (Nat.le_refl _) _
  have HS0 : Hid ((u.alloc (.cells #[.string s, .int .i64 0, .int .i64 0] 75)).heap.size = u.heap.size + 1) := by simp [Hid]
  have HD : Hid (decV s = if W.endE s.size (tkV s 0 0).2.1 (takeE s 0 0) = 0 then (takeL s 0 0, 0) else ([], 100)) := rfl
  generalize decV s = D at *
  generalize (tkV s 0 0).2.1 = q at *
  generalize takeE s 0 0 = E at *
  generalize takeL s 0 0 = L at *
  obtain ⟨N, hN⟩ : ∃ N, N = u.heap.size := ⟨_, rfl⟩
  have HN := hide hN
  rw [← hN] at HB0 HS0 HRD HNR ⊢
  clear hN
  have HBW : Hid (∀ (u1 w : World) (ao : Option Addr) (c : Nat), Below N u u1 → u1.heap.size = N + 1 → Tk u1 w u1.heap.size N s q E L ao c → OwnD w N L ao c ∧ Below N u w) := fun u1 w ao c hb hs1 ht => ⟨own_down ht.own (by omega), hb.trans (ht.upd.below (by omega) (Nat.le_refl _) (Nat.le_refl _))⟩
  by_cases h0 : W.endE s.size q E = 0
  · have HDD : Hid (D = (L, 0)) := by rw [unhide HD, if_pos h0]; exact rfl
    rw [unhide HDD]
    have HEN : Hid (∀ (w : World), W.Rd w N s q E → Calls Try.prog 36 #[.pointer (some ⟨N, 0, none⟩)] w fun x w' => x = .returned (.int .i64 0) ∧ ∃ n, w' = w.drewN n) := fun w h => by have := unhide HEN N w q E h; rwa [h0] at this
    show Calls Try.prog 29 #[.string s] u fun x u' => ∃ ao c, x = .returned (.tuple #[.slice ao L.length c, .int .i64 0]) ∧ OwnD u' N L ao c ∧ Below N u u'
    go_enter Try.func29, Try.ntmps29
    go_wp2_with (first
      | (go_at_call 30; refine (unhide HNR).mono ?_; rintro e w1 ⟨rfl, hw1⟩; rw [← hw1] at HB0 HS0 HRD; clear hw1)
      | (go_at_call 11; refine (unhide HT _ _ (unhide HRD)).mono ?_; rintro e w2 ⟨ao, c, rfl, ht⟩; have HT2 := hide ht; have HB2 := hide (unhide HBW _ _ _ _ (unhide HB0) (unhide HS0) ht); clear ht)
      | (go_at_call 36; refine (unhide HEN _ (unhide HT2).rd).mono ?_; rintro e w3 ⟨rfl, z, rfl⟩)
      | fail)
    go_ret2
    exact ⟨ao, c, rfl, (unhide HB2).1, belowDrewN (unhide HB2).2 _⟩
  · have HDD : Hid (D = ([], 100)) := by rw [unhide HD, if_neg h0]; exact rfl
    rw [unhide HDD]
    have HEN : Hid (∀ (w : World), W.Rd w N s q E → Calls Try.prog 36 #[.pointer (some ⟨N, 0, none⟩)] w fun x w' => x = .returned (.int .i64 (W.endE s.size q E)) ∧ ∃ n, w' = w.drewN n) := fun w h => unhide HEN N w q E h
    generalize W.endE s.size q E = en at *
    show Calls Try.prog 29 #[.string s] u fun x u' => ∃ ao c, x = .returned (.tuple #[.slice ao 0 c, .int .i64 100]) ∧ OwnD u' N [] ao c ∧ Below N u u'
    have HON : Hid (∀ w : World, OwnD w N [] none 0) := fun w => World.ownsRow_nil _ _ _ _
    go_enter Try.func29, Try.ntmps29
    go_wp2_with (first
      | (go_at_call 30; refine (unhide HNR).mono ?_; rintro e w1 ⟨rfl, hw1⟩; rw [← hw1] at HB0 HS0 HRD; clear hw1)
      | (go_at_call 11; refine (unhide HT _ _ (unhide HRD)).mono ?_; rintro e w2 ⟨ao, c, rfl, ht⟩; have HT2 := hide ht; have HB2 := hide (unhide HBW _ _ _ _ (unhide HB0) (unhide HS0) ht); clear ht)
      | (go_at_call 36; refine (unhide HEN _ (unhide HT2).rd).mono ?_; rintro e w3 ⟨rfl, z, rfl⟩)
      | fail)
    go_ret2
    exact ⟨none, 0, rfl, unhide HON _, belowDrewN (unhide HB2).2 _⟩
end Go.Proofs.Ytajflgonhomkfaa
