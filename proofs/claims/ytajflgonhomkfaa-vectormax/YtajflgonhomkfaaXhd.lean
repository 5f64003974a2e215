/- Vectors, the document's side: Decode; what the walk of VectorBytes asks. -/
import Derived.Test.YtajflgonhomkfaaXhb
import Derived.Test.YtajflgonhomkfaaXhc
import Derived.Test.YtajflgonhomkfaaXgi
import Derived.Deep.DeepCutAuto
namespace Go.Proofs.Ytajflgonhomkfaa
open Go.RowKit

theorem krSame {W0 : World} {a b : List (Nat × Nat)} {xa xb : Option Addr} {ca cb na nb : Nat} (hr : a = b) (ea : na = a.length) (eb : nb = b.length) (ha : Da W0 a xa ca) (hb : Da W0 b xb cb) : Calls Try.prog 21 #[.slice xa na ca, .slice xb nb cb] W0 fun e W' => e = .returned (.bool true) ∧ Below W0.heap.size W0 W' := by
  subst ea eb
  refine (rSame a b xa xb ca cb W0 ha.at hb.at).mono ?_
  rintro e W' ⟨he, z, rfl⟩
  exact ⟨by rw [he, decide_eq_true hr], belowDrewN (Below.refl _ _) _⟩
set_option maxRecDepth 100000 in
set_option maxHeartbeats 4000000 in
theorem rDecode (s : ByteArray) (u : World) (hs : s.size ≤ 140737488355328) :
    Calls Try.prog 28 #[.string s] u fun x u' => ∃ ao c, x = .returned (.tuple #[.slice ao (decV s).1.length c, .int .i64 (decV s).2]) ∧ OwnD u' u.heap.size (decV s).1 ao c ∧ Below u.heap.size u u' := by
  have HRD := hide (W.Rd.new s u 49 (Nat.le_trans hs (by decide)))
  have HT := hide (fun (a : Nat) (w : World) (h : W.Rd w a s 0 0) => rTake a s 0 0 w h)
  have HEN : Hid (∀ (a : Nat) (w : World) (p : Nat) (e : Int), W.Rd w a s p e → Calls Try.prog 37 #[.pointer (some ⟨a, 0, none⟩)] w fun x w' => x = .returned (.int .i64 (W.endE s.size p e)) ∧ ∃ n, w' = w.drewN n) := fun a w p e h => W.mEnd a s p e w h
  have HB0 : Hid (Below u.heap.size u (u.alloc (.cells #[.string s, .int .i64 0, .int .i64 0] 49))) := (Below.refl _ _).alloc (Nat.le_refl _) _
  have HS0 : Hid ((u.alloc (.cells #[.string s, .int .i64 0, .int .i64 0] 49)).heap.size = u.heap.size + 1) := by simp [Hid]
  have HD : Hid (decV s = if W.endE s.size (tkV s 0 0).2.1 (takeE s 0 0) = 0 then (takeL s 0 0, 0) else ([], 100)) := rfl
  generalize decV s = D at *
  generalize (tkV s 0 0).2.1 = q at *
  generalize takeE s 0 0 = E at *
  generalize takeL s 0 0 = L at *
  obtain ⟨N, hN⟩ : ∃ N, N = u.heap.size := ⟨_, rfl⟩
  have HN := hide hN
  rw [← hN] at HB0 HS0 HRD ⊢
  clear hN
  have HBW : Hid (∀ (u1 w : World) (ao : Option Addr) (c : Nat), Below N u u1 → u1.heap.size = N + 1 → Tk u1 w u1.heap.size N s q E L ao c → OwnD w N L ao c ∧ Below N u w) := fun u1 w ao c hb hs1 ht => ⟨own_down ht.own (by omega), hb.trans (ht.upd.below (by omega) (Nat.le_refl _) (Nat.le_refl _))⟩
  obtain ⟨U, hU⟩ : ∃ U, U = u.alloc (.cells #[.string s, .int .i64 0, .int .i64 0] 49) := ⟨_, rfl⟩
  have HU := hide hU
  rw [← hU] at HB0 HS0 HRD
  clear hU
  by_cases h0 : W.endE s.size q E = 0
  · have HDD : Hid (D = (L, 0)) := by rw [unhide HD, if_pos h0]; exact rfl
    rw [unhide HDD]
    have HEN : Hid (∀ (w : World), W.Rd w N s q E → Calls Try.prog 37 #[.pointer (some ⟨N, 0, none⟩)] w fun x w' => x = .returned (.int .i64 0) ∧ ∃ n, w' = w.drewN n) := fun w h => by have := unhide HEN N w q E h; rwa [h0] at this
    show Calls Try.prog 28 #[.string s] u fun x u' => ∃ ao c, x = .returned (.tuple #[.slice ao L.length c, .int .i64 0]) ∧ OwnD u' N L ao c ∧ Below N u u'
    go_enter Try.func28, Try.ntmps28
    go_upto_region 2 with fail
    rw [← unhide HU, ← unhide HN]
    go_wp2_with (first
      | (go_at_call 33; refine (unhide HT _ _ (unhide HRD)).mono ?_; rintro e w2 ⟨ao, c, rfl, ht⟩; have HT2 := hide ht; have HB2 := hide (unhide HBW _ _ _ _ (unhide HB0) (unhide HS0) ht); clear ht)
      | (go_at_call 37; refine (unhide HEN _ (unhide HT2).rd).mono ?_; rintro e w3 ⟨rfl, z, rfl⟩)
      | fail)
    go_ret2
    exact ⟨ao, c, rfl, (unhide HB2).1, belowDrewN (unhide HB2).2 _⟩
  · have HDD : Hid (D = ([], 100)) := by rw [unhide HD, if_neg h0]; exact rfl
    rw [unhide HDD]
    have HEN : Hid (∀ (w : World), W.Rd w N s q E → Calls Try.prog 37 #[.pointer (some ⟨N, 0, none⟩)] w fun x w' => x = .returned (.int .i64 (W.endE s.size q E)) ∧ ∃ n, w' = w.drewN n) := fun w h => unhide HEN N w q E h
    generalize W.endE s.size q E = en at *
    show Calls Try.prog 28 #[.string s] u fun x u' => ∃ ao c, x = .returned (.tuple #[.slice ao 0 c, .int .i64 100]) ∧ OwnD u' N [] ao c ∧ Below N u u'
    have HON : Hid (∀ w : World, OwnD w N [] none 0) := fun w => World.ownsRow_nil _ _ _ _
    go_enter Try.func28, Try.ntmps28
    go_upto_region 2 with fail
    rw [← unhide HU, ← unhide HN]
    go_wp2_with (first
      | (go_at_call 33; refine (unhide HT _ _ (unhide HRD)).mono ?_; rintro e w2 ⟨ao, c, rfl, ht⟩; have HT2 := hide ht; have HB2 := hide (unhide HBW _ _ _ _ (unhide HB0) (unhide HS0) ht); clear ht)
      | (go_at_call 37; refine (unhide HEN _ (unhide HT2).rd).mono ?_; rintro e w3 ⟨rfl, z, rfl⟩)
      | fail)
    go_ret2
    exact ⟨none, 0, rfl, unhide HON _, belowDrewN (unhide HB2).2 _⟩
end Go.Proofs.Ytajflgonhomkfaa
