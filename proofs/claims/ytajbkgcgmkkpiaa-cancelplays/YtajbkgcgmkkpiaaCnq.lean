/- Tokens by their numbers; 0: nil. -/
import Derived.Test.YtajbkgcgmkkpiaaCnp
namespace Go.Proofs.Ytajbkgcgmkkpiaa.C
open Go.RowKit Go.Lib
section
variable {B : Nat} {W : World} {G : Geo} {Z : Nat → Dy} {n : Nat}
theorem kWhyN (h : Fo B W G Z n) {k : Nat} (hk : k ≤ n) : Calls Try.prog 15 #[tkP G k] W fun e w' => e = .returned (.int .i64 (whyN Z k)) ∧ w' = W := by
  cases k with
  | zero => exact kWhyNil W
  | succ k => exact kWhy h (by omega)
theorem kOffN (h : Fo B W G Z n) {k : Nat} (hk : k ≤ n) : Calls Try.prog 16 #[tkP G k] W fun e w' => e = .returned (.bool (whyN Z k != 0)) ∧ w' = W := by
  cases k with
  | zero => exact kOffNil W
  | succ k =>
    refine (kOff h.fk (i := k) (by omega)).mono fun e w' ⟨h1, h2⟩ => ⟨?_, h2⟩
    rw [h1]
    by_cases e : (Z k).why = 0
    · simp [whyN, e]
    · simp [whyN, e]
theorem kOneN (h : Fo B W G Z n) {a b : Nat} (ha : a ≤ n) (hb : b ≤ n) : Calls Try.prog 19 #[tkP G a, tkP G b] W fun e w' => e = .returned (.bool (decide (a = b ∧ a ≠ 0))) ∧ w' = W := by
  cases a with
  | zero =>
    refine (kOneNil b W).mono fun e w' ⟨h1, h2⟩ => ⟨by rw [h1]; simp, h2⟩
  | succ a =>
    cases b with
    | zero => exact (kOneNilR h.fk (i := a) (by omega)).mono fun e w' ⟨h1, h2⟩ => ⟨by rw [h1]; simp, h2⟩
    | succ b =>
      refine (kOne h.fk (i := a) (j := b) (by omega) (by omega)).mono fun e w' ⟨h1, h2⟩ => ⟨?_, h2⟩
      rw [h1]
      by_cases e : a = b
      · simp [e]
      · have : G.ch a ≠ G.ch b := fun q => e (h.fk.cinj a b (by omega) (by omega) q)
        simp [e, this]
/-- one token more, and all is as it should be -/
theorem Wf.more {up up' : Nat → Nat} (h : Wf up Z n) (hu : ∀ j, j < n → up' j = up j) (hn : up' n = 0) : Wf up' (C.upd Z n dy0) (n + 1) := by
  have lt : ∀ {j : Nat}, j < n + 1 → j ≠ n → j < n := fun a b => by omega
  refine ⟨fun i hi => ?_, fun i hi hz => ?_, fun i hi hz => ?_, fun i hi hz p hp => ?_, fun p hp x c hc => ?_⟩
  · by_cases e : i = n
    · rw [e, hn]; omega
    · rw [hu i (lt hi e)]; exact h.uple i (lt hi e)
  · by_cases e : i = n
    · subst e; rw [upd_same, hn]; rfl
    · rw [upd_ne _ _ _ e] at hz ⊢
      rw [hu i (lt hi e)]; exact h.abv i (lt hi e) hz
  · by_cases e : i = n
    · subst e; rw [upd_same] at hz; exact absurd rfl hz
    · rw [upd_ne _ _ _ e] at hz ⊢
      exact h.dead i (lt hi e) hz
  · by_cases e : i = n
    · subst e; omega
    · rw [upd_ne _ _ _ e] at hz ⊢
      rw [hu i (lt hi e)] at hp
      have := h.uple i (lt hi e)
      have hpn : p ≠ n := by have := lt hi e; omega
      rw [upd_ne _ _ _ hpn]
      exact h.live i (lt hi e) hz p hp
  · by_cases e : p = n
    · subst e; rw [upd_same] at hc; simp [dy0] at hc
    · rw [upd_ne _ _ _ e] at hc
      obtain ⟨a1, a2, a3, a4⟩ := h.un p (lt hp e) x c hc
      rw [upd_ne _ _ _ (by omega), hu c a1]
      exact ⟨by omega, a2, a3, a4⟩
theorem Wf.moreLive {up up' : Nat → Nat} {p : Nat} (h : Wf up Z n) (hu : ∀ j, j < n → up' j = up j) (hp : p < n) (hn : up' n = p + 1) (hl : (Z p).why = 0) (ao : Option Addr) (c' : Nat) :
    Wf up' (C.upd (C.upd (C.upd Z n dy0) n (dy0.laid p (Z p).un.length)) p ((Z p).with ((Z p).un ++ [n]) ao c')) (n + 1) := by
  have lt : ∀ {j : Nat}, j < n + 1 → j ≠ n → j < n := fun a b => by omega
  have hpn : p ≠ n := by omega
  obtain ⟨Y, hY⟩ : ∃ Y, Y = C.upd (C.upd (C.upd Z n dy0) n (dy0.laid p (Z p).un.length)) p ((Z p).with ((Z p).un ++ [n]) ao c') := ⟨_, rfl⟩
  have hYn : Y n = dy0.laid p (Z p).un.length := by rw [hY, upd_ne _ _ _ (Ne.symm hpn), upd_same]
  have hYp : Y p = (Z p).with ((Z p).un ++ [n]) ao c' := by rw [hY, upd_same]
  have hYo : ∀ j, j ≠ n → j ≠ p → Y j = Z j := fun j h1 h2 => by rw [hY, upd_ne _ _ _ h2, upd_ne _ _ _ h1, upd_ne _ _ _ h1]
  have hw : ∀ j, j ≠ n → (Y j).why = (Z j).why ∧ (Y j).abv = (Z j).abv ∧ (Y j).pl = (Z j).pl := fun j h1 => by
    by_cases e : j = p
    · subst e; rw [hYp]; exact ⟨rfl, rfl, rfl⟩
    · rw [hYo j h1 e]; exact ⟨rfl, rfl, rfl⟩
  have hun : ∀ j, j ≠ n → ∀ (x c : Nat), (Z j).un[x]? = some c → (Y j).un[x]? = some c := fun j h1 x c hc => by
    by_cases e : j = p
    · subst e
      rw [hYp]
      show ((Z j).un ++ [n])[x]? = some c
      rw [List.getElem?_append_left (List.getElem?_eq_some_iff.1 hc).1]; exact hc
    · rw [hYo j h1 e]; exact hc
  rw [← hY]
  refine ⟨fun i hi => ?_, fun i hi hz => ?_, fun i hi hz => ?_, fun i hi hz r hr => ?_, fun r hr x c hc => ?_⟩
  · by_cases e : i = n
    · rw [e, hn]; omega
    · rw [hu i (lt hi e)]; exact h.uple i (lt hi e)
  · by_cases e : i = n
    · subst e; rw [hYn, hn]; rfl
    · rw [(hw i e).1] at hz
      rw [(hw i e).2.1, hu i (lt hi e)]; exact h.abv i (lt hi e) hz
  · by_cases e : i = n
    · subst e; rw [hYn] at hz; exact absurd rfl hz
    · rw [(hw i e).1] at hz
      have e2 : i ≠ p := fun e2 => hz (e2 ▸ hl)
      rw [hYo i e e2]
      exact h.dead i (lt hi e) hz
  · by_cases e : i = n
    · subst e
      obtain rfl : r = p := by omega
      rw [hYn, hYp]
      refine ⟨hl, ?_⟩
      show ((Z r).un ++ [i])[(Z r).un.length]? = some i
      simp
    · rw [(hw i e).1] at hz
      rw [hu i (lt hi e)] at hr
      have := h.uple i (lt hi e)
      have hrn : r ≠ n := by have := lt hi e; omega
      obtain ⟨a1, a2⟩ := h.live i (lt hi e) hz r hr
      rw [(hw r hrn).1, (hw i e).2.2]
      exact ⟨a1, hun r hrn _ _ a2⟩
  · by_cases e : r = n
    · subst e; rw [hYn] at hc; simp [dy0, Dy.laid] at hc
    · by_cases e2 : r = p
      · subst e2
        rw [hYp] at hc
        have hc : ((Z r).un ++ [n])[x]? = some c := hc
        by_cases hx : x < (Z r).un.length
        · rw [List.getElem?_append_left hx] at hc
          obtain ⟨a1, a2, a3, a4⟩ := h.un r (lt hr e) x c hc
          rw [hu c a1, (hw c (by omega)).1, (hw c (by omega)).2.2]
          exact ⟨by omega, a2, a3, a4⟩
        · rw [List.getElem?_append_right (by omega)] at hc
          have hx2 : x - (Z r).un.length = 0 := by
            have := (List.getElem?_eq_some_iff.1 hc).1
            simp at this
            omega
          rw [hx2] at hc
          obtain rfl : n = c := by simpa using hc
          rw [hYn]
          exact ⟨by omega, hn, rfl, by show (Z r).un.length = x; omega⟩
      · rw [hYo r e e2] at hc
        obtain ⟨a1, a2, a3, a4⟩ := h.un r (lt hr e) x c hc
        rw [hu c a1, (hw c (by omega)).1, (hw c (by omega)).2.2]
        exact ⟨by omega, a2, a3, a4⟩
theorem Wf.moreDead {up up' : Nat → Nat} {p : Nat} (h : Wf up Z n) (hu : ∀ j, j < n → up' j = up j) (hp : p < n) (hn : up' n = p + 1) (hl : ¬ (Z p).why = 0) :
    Wf up' (C.upd (C.upd Z n dy0) n (dy0.ended (Z p).why)) (n + 1) := by
  have lt : ∀ {j : Nat}, j < n + 1 → j ≠ n → j < n := fun a b => by omega
  obtain ⟨Y, hY⟩ : ∃ Y, Y = C.upd (C.upd Z n dy0) n (dy0.ended (Z p).why) := ⟨_, rfl⟩
  have hYn : Y n = dy0.ended (Z p).why := by rw [hY, upd_same]
  have hYo : ∀ j, j ≠ n → Y j = Z j := fun j h1 => by rw [hY, upd_ne _ _ _ h1, upd_ne _ _ _ h1]
  rw [← hY]
  refine ⟨fun i hi => ?_, fun i hi hz => ?_, fun i hi hz => ?_, fun i hi hz r hr => ?_, fun r hr x c hc => ?_⟩
  · by_cases e : i = n
    · rw [e, hn]; omega
    · rw [hu i (lt hi e)]; exact h.uple i (lt hi e)
  · by_cases e : i = n
    · subst e; rw [hYn] at hz; exact absurd hz hl
    · rw [hYo i e] at hz ⊢
      rw [hu i (lt hi e)]; exact h.abv i (lt hi e) hz
  · by_cases e : i = n
    · subst e; rw [hYn]; exact ⟨rfl, rfl⟩
    · rw [hYo i e] at hz ⊢
      exact h.dead i (lt hi e) hz
  · by_cases e : i = n
    · subst e; rw [hYn] at hz; exact absurd hz hl
    · rw [hYo i e] at hz ⊢
      rw [hu i (lt hi e)] at hr
      have := h.uple i (lt hi e)
      rw [hYo r (by have := lt hi e; omega)]
      exact h.live i (lt hi e) hz r hr
  · by_cases e : r = n
    · subst e; rw [hYn] at hc; simp [dy0, Dy.ended] at hc
    · rw [hYo r e] at hc
      obtain ⟨a1, a2, a3, a4⟩ := h.un r (lt hr e) x c hc
      rw [hu c a1, hYo c (by omega)]
      exact ⟨by omega, a2, a3, a4⟩
/-- what one token more leaves -/
structure More (B : Nat) (W w' : World) (G : Geo) (Z : Nat → Dy) (n k tb kb lb ch : Nat) (Z' : Nat → Dy) : Prop where
  fo : Fo B w' (G.ext n tb kb lb ch k) Z' (n + 1)
  wf : Wf (G.ext n tb kb lb ch k).up Z' (n + 1)
  old : ∀ j, j < n → (Z' j).why = (Z j).why
  new : (Z' n).why = whyN Z k
  fr : Fr B W w'
theorem kNewN (h : Fo B W G Z n) (hw : Wf G.up Z n) (hB : B ≤ W.heap.size) : Calls Try.prog 12 #[] W fun e w' => ∃ tb kb lb ch Z', e = .returned (.pointer (some ⟨tb, 0, none⟩)) ∧ More B W w' G Z n 0 tb kb lb ch Z' :=
  (kNew h hw.ok hB).mono fun e w' ⟨h1, h2, h3⟩ => ⟨_, _, _, _, _, h1, h2, hw.more (fun j hj => ext_up hj) ext_self.2.2.2.2, fun j hj => by rw [upd_ne _ _ _ (by omega)], by rw [upd_same]; rfl, h3⟩
theorem kUnderN (h : Fo B W G Z n) (hw : Wf G.up Z n) (hB : B ≤ W.heap.size) (hn : n < 6000000000000) {k : Nat} (hk : k ≤ n) : Calls Try.prog 13 #[tkP G k] W fun e w' => ∃ tb kb lb ch Z', e = .returned (.pointer (some ⟨tb, 0, none⟩)) ∧ More B W w' G Z n k tb kb lb ch Z' := by
  cases k with
  | zero => exact (kUnderNil h hw.ok hB).mono fun e w' ⟨h1, h2, h3⟩ => ⟨_, _, _, _, _, h1, h2, hw.more (fun j hj => ext_up hj) ext_self.2.2.2.2, fun j hj => by rw [upd_ne _ _ _ (by omega)], by rw [upd_same]; rfl, h3⟩
  | succ p =>
    have hp : p < n := by omega
    by_cases hl : (Z p).why = 0
    · have hlen : (Z p).un.length < 6000000000000 := by
        have := nodup_len n (Z p).un (hw.nd hp) (fun x hx => by
          obtain ⟨a, ha⟩ := List.getElem?_of_mem hx
          exact (hw.un p hp a x ha).1)
        omega
      refine (kUnderLive h hw.ok hB hp hl hlen).mono ?_
      rintro e w' ⟨tb, Z', rfl, ⟨ao, c', rfl⟩, h2, h3⟩
      refine ⟨tb, _, _, _, _, rfl, h2, hw.moreLive (fun j hj => ext_up hj) hp ext_self.2.2.2.2 hl ao c', fun j hj => ?_, ?_, h3⟩
      · by_cases e : j = p
        · subst e; rw [upd_same]; rfl
        · rw [upd_ne _ _ _ e, upd_ne _ _ _ (by omega), upd_ne _ _ _ (by omega)]
      · rw [upd_ne _ _ _ (by omega), upd_same]
        exact hl.symm
    · refine (kUnderDead h hw.ok hB hp hl).mono ?_
      rintro e w' ⟨tb, Z', rfl, rfl, h2, h3⟩
      refine ⟨tb, _, _, _, _, rfl, h2, hw.moreDead (fun j hj => ext_up hj) hp ext_self.2.2.2.2 hl, fun j hj => ?_, ?_, h3⟩
      · rw [upd_ne _ _ _ (by omega), upd_ne _ _ _ (by omega)]
      · rw [upd_same]; rfl
/-- is the number top k's, or above it? -/
def abN (up : Nat → Nat) : Nat → Nat → Bool
  | 0, _ => false
  | _, 0 => false
  | t + 1, k + 1 => anc up t k
/-- what Cancel leaves -/
structure Cut (B : Nat) (W w' : World) (G : Geo) (Z : Nat → Dy) (n k : Nat) (why : Int) (Z' : Nat → Dy) : Prop where
  fo : Fo B w' G Z' n
  wf : Wf G.up Z' n
  all : ∀ j, j < n → (Z' j).why = if k ≠ 0 ∧ whyN Z k = 0 ∧ (Z j).why = 0 ∧ abN G.up k (j + 1) = true then wy why else (Z j).why
  fr : Fr B W w'
theorem kCancelN (h : Fo B W G Z n) (hw : Wf G.up Z n) (hn : n < 6000000000000) {k : Nat} (hk : k ≤ n) (why : Int) : Calls Try.prog 14 #[tkP G k, .int .i64 why] W fun e w' => ∃ Z', e = .returned (.bool (decide (k ≠ 0 ∧ whyN Z k = 0))) ∧ Cut B W w' G Z n k why Z' := by
  cases k with
  | zero => exact (kCancelNil why W).mono fun e w' ⟨h1, h2⟩ => ⟨Z, by rw [h1]; simp, by rw [h2]; exact h, hw, fun j _ => by simp, by rw [h2]; exact Fr.refl _ _⟩
  | succ i =>
    refine (kCancel h hw hn (i := i) (by omega) why).mono ?_
    rintro e w' ⟨rfl, Z', h1, h2, h3, h4⟩
    refine ⟨Z', by simp [whyN], h3, h1, fun j hj => ?_, h4⟩
    rw [h2 j hj]
    simp [whyN, abN]
end
end Go.Proofs.Ytajbkgcgmkkpiaa.C
