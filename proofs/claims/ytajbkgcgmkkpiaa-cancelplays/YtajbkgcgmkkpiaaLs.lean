/- A region whose last operation alone changes memory: a condition on the world that holds until then. Of no program. -/
import Derived.Test.YtajbkgcgmkkpiaaMm
namespace Go.Proofs.Ytajbkgcgmkkpiaa
open Go.RowKit

section
variable {P : Program} {ops : Array Oper} {Q : Exit → Act → World → Prop} {md : Region.Mode} {S : World → Prop} {last : Nat}
/-- whatever order is picked from here on, and S holds behind each but the last -/
def wpAnyL (P : Program) (md : Region.Mode) (ops : Array Oper) (Q : Exit → Act → World → Prop) (S : World → Prop) (last : Nat) : Nat → Array Bool → Act → World → Prop
  | 0, listed, a, w => Region.ready md ops listed = [] ∧ Q .normal a w
  | fuel + 1, listed, a, w =>
    (Region.ready md ops listed = [] → Q .normal a w) ∧
    ∀ i ∈ Region.ready md ops listed, wpOp P ops Q i (fun a' w' => (i ≠ last → S w') ∧ wpAnyL P md ops Q S last fuel (listed.setIfInBounds i true) a' w') a w
theorem wpAny_of_L : ∀ (fuel : Nat) (listed : Array Bool) (a : Act) (w : World), wpAnyL P md ops Q S last fuel listed a w → wpAny P md ops Q fuel listed a w
  | 0, _, _, _, h => h
  | fuel + 1, _, _, _, h => ⟨h.1, fun i hi => wpOp_mono (fun a' w' h' => wpAny_of_L fuel _ a' w' h'.2) (h.2 i hi)⟩
/-- y waits for x -/
def waits (md : Region.Mode) (ops : Array Oper) (y x : Nat) : Bool :=
  match ops[y]? with
  | some o => o.after.any fun e => Region.binds md e && e.on == x
  | none => false
/-- a chain of those that wait, from x to the last -/
def chained (md : Region.Mode) (ops : Array Oper) (last : Nat) : Nat → List Nat → Bool
  | x, [] => waits md ops last x
  | x, y :: r => waits md ops y x && chained md ops last y r
/-- none of them has come up -/
def unlisted (listed : Array Bool) : List Nat → Prop
  | [] => True
  | y :: r => listed.getD y true = false ∧ unlisted listed r
theorem waits_ready {listed : Array Bool} {y x : Nat} (h : waits md ops y x = true) (hx : listed.getD x true = false) : y ∉ Region.ready md ops listed := by
  intro hy
  obtain ⟨_, oy, hoy, hall⟩ := mem_ready.1 hy
  rw [waits, hoy] at h
  simp only [Array.any_eq_true] at h
  obtain ⟨k, hk, h⟩ := h
  simp only [Bool.and_eq_true, beq_iff_eq] at h
  have h1 := hall _ (Array.getElem_mem hk) h.1
  rw [h.2] at h1
  rcases Nat.lt_or_ge x listed.size with h' | h'
  · simp [h'] at hx h1; rw [hx] at h1; cases h1
  · simp [Array.getElem?_eq_none h'] at h1
theorem chained_last : ∀ (r : List Nat) (x : Nat) (listed : Array Bool), chained md ops last x r = true → listed.getD x true = false → unlisted listed r → last ∉ Region.ready md ops listed
  | [], _, _, h, hx, _ => waits_ready h hx
  | y :: r, x, listed, h, _, hu => by
    rw [chained, Bool.and_eq_true] at h
    exact chained_last r y listed h.2 hu.1 hu.2
theorem chained_keep : ∀ (r : List Nat) (x j : Nat) (listed : Array Bool), chained md ops last x r = true → listed.getD x true = false → unlisted listed r → j ∈ Region.ready md ops listed → unlisted (listed.setIfInBounds j true) r
  | [], _, _, _, _, _, _, _ => trivial
  | y :: r, x, j, listed, h, hx, hu, hj => by
    rw [chained, Bool.and_eq_true] at h
    refine ⟨?_, chained_keep r y j listed h.2 hu.1 hu.2 hj⟩
    have hne : j ≠ y := fun e => waits_ready h.1 hx (e ▸ hj)
    rw [getD_set_ne true hne]
    exact hu.1
theorem wpAnyL_first {i : Nat} {oi : Oper} {v : Value} (hi : ops[i]? = some oi) (hsel : ∀ (j : Nat) (o : Oper) cs b, ops[j]? = some o → o.op ≠ .select cs b)
    (hQ : ∀ c a w, Q (.panic c) (a.put oi.dst v) w → Q (.panic c) a w) (r : List Nat) (hc : chained md ops last i r = true) :
    ∀ (fuel : Nat) (listed : Array Bool) (a : Act) (w : World), unlisted listed r →
      (∀ j oj, ops[j]? = some oj → j ≠ i → listed.getD j true = false → (∀ e ∈ oj.after, Region.binds md e = true → e.on ≠ i) → oi.apart ops oj = true) →
      i ∈ Region.ready md ops listed → YieldsIf P ops S oi v a → S w →
      wpAnyL P md ops Q S last fuel (listed.setIfInBounds i true) (a.put oi.dst v) w → wpAnyL P md ops Q S last (fuel + 1) listed a w := by
  intro fuel
  induction fuel with
  | zero =>
    intro listed a w _ _ hr hy hS H
    refine ⟨fun h => (by rw [h] at hr; cases hr), fun j hj => ?_⟩
    by_cases hji : j = i
    · subst hji; exact hy.wpOp hi hS ⟨fun _ => hS, H⟩
    · have := ready_mono hj hji
      rw [H.1] at this
      cases this
  | succ fuel ih =>
    intro listed a w hu hfree hr hy hS H
    refine ⟨fun h => (by rw [h] at hr; cases hr), fun j hj => ?_⟩
    by_cases hji : j = i
    · subst hji; exact hy.wpOp hi hS ⟨fun _ => hS, H⟩
    · have h1 := H.2 j (ready_mono hj hji)
      obtain ⟨hjun, oj, hoj, hall⟩ := mem_ready.1 hj
      have hiun : listed.getD i true = false := (mem_ready.1 hr).1
      have hnot : ∀ e ∈ oj.after, Region.binds md e = true → e.on ≠ i := fun e he hb heq => by
        have h1 := hall e he hb
        have h0 := (mem_ready.1 hr).1
        rw [heq] at h1
        rcases Nat.lt_or_ge i listed.size with h' | h'
        · simp [h'] at h0 h1; rw [h0] at h1; cases h1
        · simp [Array.getElem?_eq_none h'] at h1
      have hjl : j ≠ last := fun e => chained_last r i listed hc hiun hu (e ▸ hj)
      have h2 := wpOp_putIf hoj (hfree j oj hoj hji hjun hnot) (fun cs b => hsel i oi cs b hi) (fun cs b => hsel j oj cs b hoj) hQ hy h1
      have hfree' : ∀ k ok, ops[k]? = some ok → k ≠ i → (listed.setIfInBounds j true).getD k true = false →
          (∀ e ∈ ok.after, Region.binds md e = true → e.on ≠ i) → oi.apart ops ok = true := fun k ok hk hki hun hno => by
        refine hfree k ok hk hki ?_ hno
        by_cases hjk : j = k
        · subst hjk; exact hjun
        · rw [getD_set_ne true hjk] at hun; exact hun
      refine wpOp_mono (fun a' w' h3 => ⟨h3.2.1, ih (listed.setIfInBounds j true) a' w' (chained_keep r i j listed hc hiun hu hj) hfree' (ready_mono hr (Ne.symm hji)) h3.1 (h3.2.1 hjl) ?_⟩) h2
      rw [Array.setIfInBounds_comm _ _ hji]
      exact h3.2.2
/-- take number i first -/
theorem wpAnyL_take (i : Nat) (d : Tmp) (v : Value) (r : List Nat) {oi : Oper} {fuel : Nat} {listed : Array Bool} {a : Act} {w : World} (hi : ops[i]? = some oi) (hd : oi.dst = some d)
    (hs : Region.noSelect ops = true) (hf : Region.free md ops listed i = true) (hr : (Region.ready md ops listed).contains i = true) (hc : chained md ops last i r = true) (hu : (r.all fun y => !listed.getD y true) = true)
    (hQ : ∀ c a w, Q (.panic c) (a.put (some d) v) w → Q (.panic c) a w) (hg : Region.wanted oi (yielded ops a.tmps) = true) (hy : ∀ u, S u → (execOp a.eval oi).run P u = .ok (.value v) u) (hS : S w)
    (h : wpAnyL P md ops Q S last fuel (listed.setIfInBounds i true) (a.put (some d) v) w) : wpAnyL P md ops Q S last (fuel + 1) listed a w := by
  have hu' : unlisted listed r := by
    clear hc
    induction r with
    | nil => trivial
    | cons y r ih =>
      simp only [List.all_cons, Bool.and_eq_true, Bool.not_eq_true'] at hu
      exact ⟨hu.1, ih hu.2⟩
  exact wpAnyL_first hi (Region.noSelect_spec hs) (by rw [hd]; exact hQ) r hc fuel listed a w hu' (Region.free_spec hi hf) (by simpa using hr) (.inl ⟨hg, hy⟩) hS (by rw [hd]; exact h)
/-- one alone may come up -/
theorem wpAnyL_one {i : Nat} {o : Oper} {fuel : Nat} {listed : Array Bool} {a : Act} {w : World} (hr : Region.ready md ops listed = [i]) (ho : ops[i]? = some o) (hg : Region.wanted o (yielded ops a.tmps) = true)
    (h : ∀ K : Act → World → Prop, (∀ a w, (i ≠ last → S w) → wpAnyL P md ops Q S last fuel (listed.setIfInBounds i true) a w → K a w) → Oper.wp P o a w K Q) : wpAnyL P md ops Q S last (fuel + 1) listed a w := by
  refine ⟨fun h0 => absurd (hr ▸ h0) (by simp), ?_⟩
  rw [hr]
  intro j hj
  obtain rfl : j = i := by simpa using hj
  refine wpOp_step ho fun K hK => ?_
  rw [if_pos hg]
  exact h K fun a w hs hw => hK a w ⟨hs, hw⟩
theorem wpAnyL_done {listed : Array Bool} {a : Act} {w : World} (hr : Region.ready md ops listed = []) (h : Q .normal a w) : ∀ fuel, wpAnyL P md ops Q S last fuel listed a w
  | 0 => ⟨hr, h⟩
  | _ + 1 => ⟨fun _ => h, by rw [hr]; simp⟩
theorem wp_region_last {id : Nat} {a : Act} {w : World} (S : World → Prop) (last : Nat) (hm : P.follows .mixedOrders = true) (hS : S w.drew)
    (h : S w.drew → wpAnyL P .any ops Q S last ops.size (Array.replicate ops.size false) a w.drew) : (Code.region id ops true).wp P Q a w :=
  wp_region_any hm (wpAny_of_L _ _ _ _ (h hS))
end
end Go.Proofs.Ytajbkgcgmkkpiaa
