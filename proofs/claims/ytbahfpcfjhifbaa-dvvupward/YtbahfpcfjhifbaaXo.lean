/- Vectors: Take, Decode. -/
import Derived.Test.YtbahfpcfjhifbaaXn
namespace Go.Proofs.Ytbahfpcfjhifbaa
open Go.RowKit
/-- what Take leaves as error -/
noncomputable def takeE (s : ByteArray) (p : Nat) (e : Int) : Int := if V.okB (tkV s p e).1 then (tkV s p e).2.2 else W.failE (tkV s p e).2.2 100
/-- what Take answers -/
noncomputable def takeL (s : ByteArray) (p : Nat) (e : Int) : List (Nat × Nat) := if takeE s p e = 0 then (tkV s p e).1 else []
theorem Tk.none {u w : World} {N a : Nat} {s : ByteArray} {p : Nat} {e : Int} {l : List (Nat × Nat)} {ao : Option Addr} {c : Nat} (h : Tk u w N a s p e l ao c) : Tk u w N a s p e [] none 0 := ⟨World.ownsRow_nil _ _ _ _, h.rd, h.upd⟩
set_option maxRecDepth 100000 in
set_option maxHeartbeats 4000000 in
theorem vTake (a : Nat) (s : ByteArray) (p : Nat) (e : Int) (u : World) (h : W.Rd u a s p e) :
    Calls Try.prog 87 #[.pointer (some ⟨a, 0, none⟩)] u fun x u' => ∃ ao c, x = .returned (.slice ao (takeL s p e).length c) ∧ Tk u u' u.heap.size a s (tkV s p e).2.1 (takeE s p e) (takeL s p e) ao c := by
  have H1 := hide (vTakeDots a s p e u h)
  have HF := hide (tkV_fits s p e)
  have HE : Hid (∀ (w : World) (p : Nat) (e : Int), W.Rd w a s p e → Calls Try.prog 89 #[.pointer (some ⟨a, 0, none⟩)] w fun x w' => x = .returned (.int .i64 e) ∧ w' = w) := fun w p e h => W.rErr a s p e w h
  have HFL : Hid (∀ (w : World) (p : Nat) (e : Int), W.Rd w a s p e → Calls Try.prog 116 #[.pointer (some ⟨a, 0, none⟩), .int .i64 100] w fun y w' => y = .returned (.tuple #[]) ∧ W.Rt w w' a s p (W.failE e 100)) := fun w p e h => W.rFail a s p e 100 w h
  have HAN := hide h.lt
  obtain ⟨N, hN⟩ : ∃ N, N = u.heap.size := ⟨_, rfl⟩
  have HN := hide hN
  rw [← hN] at H1 HAN ⊢
  clear hN h
  have HTE : Hid (takeE s p e = if V.okB (tkV s p e).1 then (tkV s p e).2.2 else W.failE (tkV s p e).2.2 100) := rfl
  have HTL : Hid (takeL s p e = if takeE s p e = 0 then (tkV s p e).1 else []) := rfl
  generalize takeE s p e = E at *
  generalize takeL s p e = L at *
  generalize tkV s p e = t at *
  obtain ⟨l, q, f⟩ := t
  have H1 : Hid (Calls Try.prog 115 #[.pointer (some ⟨a, 0, none⟩)] u fun x u' => ∃ ao c, x = .returned (.slice ao l.length c) ∧ Tk u u' N a s q f l ao c) := H1
  have HF : Hid (Fits l ∧ l.length ≤ 64) := HF
  have HTE : Hid (E = if V.okB l then f else W.failE f 100) := HTE
  have HTL : Hid (L = if E = 0 then l else []) := HTL
  have HV : Hid (∀ (w : World) (ao : Option Addr) (c : Nat), Tk u w N a s q f l ao c → Calls Try.prog 39 #[.slice ao l.length c] w fun e u' => e = .returned (.bool (V.okB l)) ∧ Below w.heap.size w u') := fun w ao c ht => vValid l ao c w ⟨ht.own.dv.lies, (unhide HF).1, len_small (Nat.le_trans (unhide HF).2 (by decide))⟩
  show Calls Try.prog 87 #[.pointer (some ⟨a, 0, none⟩)] u fun x u' => ∃ ao c, x = .returned (.slice ao L.length c) ∧ Tk u u' N a s q E L ao c
  cases hok : V.okB l with
  | true =>
    have HEE : Hid (E = f) := by rw [unhide HTE, hok]; exact rfl
    rw [hok] at HV
    by_cases hf : f = 0
    · have HLL : Hid (L = l) := by rw [unhide HTL, unhide HEE, if_pos hf]; exact rfl
      subst hf
      go_enter Try.func87, Try.ntmps87
      go_wp2_with (first
        | (go_at_call 115; refine (unhide H1).mono ?_; rintro e w1 ⟨ao, c, rfl, ht⟩; have HT1 := hide ht; clear ht)
        | (go_at_call 39; refine (unhide HV _ _ _ (unhide HT1)).mono ?_; rintro e w2 ⟨rfl, hb2⟩; have HT2 := hide ((unhide HT1).belw hb2); clear hb2)
        | (go_at_call 89; refine (unhide HE _ _ _ (unhide HT2).rd).mono ?_; rintro y w3 ⟨rfl, hw3⟩; obtain rfl := hw3.symm; clear hw3)
        | fail)
      go_ret
      exact ⟨ao, c, by rw [unhide HLL]; rfl, by rw [unhide HLL, unhide HEE]; exact unhide HT2⟩
    · have HLL : Hid (L = []) := by rw [unhide HTL, unhide HEE, if_neg hf]; exact rfl
      go_enter Try.func87, Try.ntmps87
      go_wp2_with (first
        | (go_at_call 115; refine (unhide H1).mono ?_; rintro e w1 ⟨ao, c, rfl, ht⟩; have HT1 := hide ht; clear ht)
        | (go_at_call 39; refine (unhide HV _ _ _ (unhide HT1)).mono ?_; rintro e w2 ⟨rfl, hb2⟩; have HT2 := hide ((unhide HT1).belw hb2); clear hb2)
        | (go_at_call 89; refine (unhide HE _ _ _ (unhide HT2).rd).mono ?_; rintro y w3 ⟨rfl, hw3⟩; obtain rfl := hw3.symm; clear hw3)
        | fail)
      go_ret
      exact ⟨none, 0, by rw [unhide HLL]; rfl, by rw [unhide HLL, unhide HEE]; exact (unhide HT2).none⟩
  | false =>
    have HEE : Hid (E = W.failE f 100) := by rw [unhide HTE, hok]; exact rfl
    rw [hok] at HV
    have HNZ : Hid (E ≠ 0) := by
      rw [unhide HEE]; unfold W.failE; split
      · exact (by decide : (100 : Int) ≠ 0)
      · assumption
    have HLL : Hid (L = []) := by rw [unhide HTL, if_neg (unhide HNZ)]; exact rfl
    have HFL : Hid (∀ (w : World), W.Rd w a s q f → Calls Try.prog 116 #[.pointer (some ⟨a, 0, none⟩), .int .i64 100] w fun y w' => y = .returned (.tuple #[]) ∧ W.Rt w w' a s q E) := fun w h => by rw [unhide HEE]; exact unhide HFL w q f h
    have hnz : ¬ E = 0 := unhide HNZ
    go_enter Try.func87, Try.ntmps87
    go_wp2_with (first
      | (go_at_call 115; refine (unhide H1).mono ?_; rintro e w1 ⟨ao, c, rfl, ht⟩; have HT1 := hide ht; clear ht)
      | (go_at_call 39; refine (unhide HV _ _ _ (unhide HT1)).mono ?_; rintro e w2 ⟨rfl, hb2⟩; have HT2 := hide ((unhide HT1).belw hb2); clear hb2)
      | (go_at_call 116; refine (unhide HFL _ (unhide HT2).rd).mono ?_; rintro y w3 ⟨rfl, hr3⟩; have HT3 := hide ((unhide HT2).step hr3 (unhide HAN)); clear hr3)
      | (go_at_call 89; refine (unhide HE _ _ _ (unhide HT3).rd).mono ?_; rintro y w4 ⟨rfl, hw4⟩; obtain rfl := hw4.symm; clear hw4)
      | fail)
    go_ret
    exact ⟨none, 0, by rw [unhide HLL]; rfl, by rw [unhide HLL]; exact (unhide HT3).none⟩
/-- what Decode answers -/
noncomputable def decV (s : ByteArray) : List (Nat × Nat) × Int := if W.endE s.size (tkV s 0 0).2.1 (takeE s 0 0) = 0 then (takeL s 0 0, 0) else ([], 100)
end Go.Proofs.Ytbahfpcfjhifbaa
