/- Tokens: what Cancel does to the forest. -/
import Derived.Test.YtajbkgcgmkkpiaaCnl
namespace Go.Proofs.Ytajbkgcgmkkpiaa.C
/-- is the token top k, or above it? -/
def ancF (up : Nat → Nat) (top : Nat) : Nat → Nat → Bool
  | 0, _ => false
  | f + 1, k => k == top || match up k with
    | 0 => false
    | p + 1 => ancF up top f p
theorem ancF_eq (up : Nat → Nat) (top : Nat) : ∀ (f g k : Nat), (∀ j, j ≤ k → up j ≤ j) → k < f → k < g → ancF up top f k = ancF up top g k
  | 0, _, _, _, h, _ => absurd h (by omega)
  | _, 0, _, _, _, h => absurd h (by omega)
  | f + 1, g + 1, k, hu, hf, hg => by
    unfold ancF
    have := hu k (Nat.le_refl _)
    cases hk : up k with
    | zero => rfl
    | succ p =>
      simp only
      rw [ancF_eq up top f g p (fun j hj => hu j (by omega)) (by omega) (by omega)]
def anc (up : Nat → Nat) (top k : Nat) : Bool := ancF up top (k + 1) k
theorem anc_root {up : Nat → Nat} {top k : Nat} (h : up k = 0) : anc up top k = (k == top) := by
  unfold anc ancF
  rw [h]
  simp
theorem anc_step {up : Nat → Nat} {top k p : Nat} (hu : ∀ j, j ≤ k → up j ≤ j) (h : up k = p + 1) : anc up top k = (k == top || anc up top p) := by
  have := hu k (Nat.le_refl _)
  unfold anc
  rw [ancF]
  rw [h]
  simp only
  rw [ancF_eq up top k (p + 1) p (fun j hj => hu j (by omega)) (by omega) (by omega)]
theorem anc_self {up : Nat → Nat} {k : Nat} : anc up k k = true := by unfold anc ancF; simp
theorem anc_congr {up up' : Nat → Nat} {top : Nat} : ∀ (k : Nat), (∀ j, j ≤ k → up j ≤ j) → (∀ j, j ≤ k → up' j = up j) → anc up' top k = anc up top k := by
  intro k
  induction k using Nat.strongRecOn with
  | _ k ih =>
    intro hu he
    have hk := hu k (Nat.le_refl _)
    cases h : up k with
    | zero => rw [anc_root h, anc_root ((he k (Nat.le_refl _)).trans h)]
    | succ p =>
      rw [anc_step hu h, anc_step (fun j hj => by rw [he j hj]; exact hu j hj) ((he k (Nat.le_refl _)).trans h), ih p (by omega) (fun j hj => hu j (by omega)) (fun j hj => he j (by omega))]
/-- all is as it should be -/
structure Wf (up : Nat → Nat) (Z : Nat → Dy) (n : Nat) : Prop where
  uple : ∀ i, i < n → up i ≤ i
  abv : ∀ i, i < n → (Z i).why = 0 → (Z i).abv = up i
  dead : ∀ i, i < n → ¬ (Z i).why = 0 → (Z i).abv = 0 ∧ (Z i).un = []
  live : ∀ i, i < n → (Z i).why = 0 → ∀ p, up i = p + 1 → (Z p).why = 0 ∧ (Z p).un[(Z i).pl]? = some i
  un : ∀ p, p < n → ∀ x c, (Z p).un[x]? = some c → c < n ∧ up c = p + 1 ∧ (Z c).why = 0 ∧ (Z c).pl = x
theorem Wf.ok {up : Nat → Nat} {Z : Nat → Dy} {n : Nat} (h : Wf up Z n) : Ok Z n := fun i hi => ⟨by
  by_cases e : (Z i).why = 0
  · rw [h.abv i hi e]; have := h.uple i hi; omega
  · rw [(h.dead i hi e).1]; omega, fun j hj => by
  obtain ⟨x, hx⟩ := List.getElem?_of_mem hj
  exact (h.un i hi x j hx).1⟩
/-- one of them stands in no list -/
structure Wo (up : Nat → Nat) (Z Y : Nat → Dy) (n i : Nat) : Prop where
  why : ∀ k, (Y k).why = (Z k).why
  abv : ∀ k, (Y k).abv = (Z k).abv
  dead : ∀ k, k < n → ¬ (Z k).why = 0 → (Y k).un = []
  live : ∀ k, k < n → k ≠ i → (Z k).why = 0 → ∀ r, up k = r + 1 → (Y r).un[(Y k).pl]? = some k
  un : ∀ r, r < n → ∀ x c, (Y r).un[x]? = some c → c < n ∧ up c = r + 1 ∧ (Z c).why = 0 ∧ (Y c).pl = x ∧ c ≠ i
theorem Wf.alone {up : Nat → Nat} {Z : Nat → Dy} {n i : Nat} (h : Wf up Z n) (hi : i < n) (hr : up i = 0 ∨ ¬ (Z i).why = 0) : Wo up Z Z n i :=
  ⟨fun _ => rfl, fun _ => rfl, fun k hk hd => (h.dead k hk hd).2, fun k hk _ hl r hr => (h.live k hk hl r hr).2, fun r hr' x c hc => by
    obtain ⟨h1, h2, h3, h4⟩ := h.un r hr' x c hc
    refine ⟨h1, h2, h3, h4, fun e => ?_⟩
    subst e
    rcases hr with hr | hr
    · omega
    · exact hr h3⟩
theorem Wf.left {up : Nat → Nat} {Z : Nat → Dy} {n i p q : Nat} (h : Wf up Z n) (hi : i < n) (hl : (Z i).why = 0) (hp : up i = p + 1) (hq : (Z p).un.getLast? = some q) : Wo up Z (lv Z i p q) n i := by
  have hpn : p < n := by have := h.uple i hi; omega
  obtain ⟨hpl, hui⟩ := h.live i hi hl p hp
  have hpi := (List.getElem?_eq_some_iff.1 hui).1
  obtain ⟨l, hln⟩ : ∃ l, (Z p).un.length = l + 1 := ⟨(Z p).un.length - 1, by omega⟩
  have hlq : (Z p).un[l]? = some q := by rw [List.getLast?_eq_getElem?] at hq; rw [← hq, hln]; rfl
  obtain ⟨hqn, hqu, hqw, hqp⟩ := h.un p hpn l q hlq
  have hqp' : q ≠ p := fun e => by have := h.uple q hqn; omega
  have hlen : ((Z p).un.set (Z i).pl q).dropLast.length = l := by simp [hln]
  have hun : ∀ r, r ≠ p → (lv Z i p q r).un = (Z r).un := fun r hr => by
    unfold lv
    rw [upd_ne _ _ _ hr]
    by_cases e : r = q
    · subst e; rw [upd_same]
    · rw [upd_ne _ _ _ e]
  have hunp : (lv Z i p q p).un = ((Z p).un.set (Z i).pl q).dropLast := by unfold lv; rw [upd_same]
  have hplq : (lv Z i p q q).pl = (Z i).pl := by unfold lv; rw [upd_ne _ _ _ hqp', upd_same]
  have hplo : ∀ k, k ≠ q → (lv Z i p q k).pl = (Z k).pl := fun k hk => by
    unfold lv
    by_cases e : k = p
    · subst e; rw [upd_same]
    · rw [upd_ne _ _ _ e, upd_ne _ _ _ hk]
  have hget : ∀ x, x < l → (lv Z i p q p).un[x]? = if (Z i).pl = x then some q else (Z p).un[x]? := fun x hx => by
    rw [hunp, List.getElem?_dropLast, if_pos (by simp [hln]; omega), List.getElem?_set]
    by_cases e : (Z i).pl = x
    · rw [if_pos e, if_pos e, if_pos (by omega)]
    · rw [if_neg e, if_neg e]
  refine ⟨fun k => ?_, fun k => ?_, fun k hk hd => ?_, fun k hk hki hkl r hr => ?_, fun r hr x c hc => ?_⟩
  · unfold lv
    by_cases e : k = p
    · subst e; rw [upd_same]
    · rw [upd_ne _ _ _ e]
      by_cases e2 : k = q
      · subst e2; rw [upd_same]
      · rw [upd_ne _ _ _ e2]
  · unfold lv
    by_cases e : k = p
    · subst e; rw [upd_same]
    · rw [upd_ne _ _ _ e]
      by_cases e2 : k = q
      · subst e2; rw [upd_same]
      · rw [upd_ne _ _ _ e2]
  · rw [hun k (fun e => hd (e ▸ hpl))]
    exact (h.dead k hk hd).2
  · have hk2 := (h.live k hk hkl r hr).2
    by_cases e : r = p
    · subst e
      have hkl2 := (List.getElem?_eq_some_iff.1 hk2).1
      by_cases ek : k = q
      · subst ek
        have hne : (Z i).pl ≠ l := fun e => by rw [e, hlq] at hui; exact hki (Option.some.inj hui)
        rw [hplq, hget _ (by omega), if_pos rfl]
      · have hne : (Z k).pl ≠ l := fun e => by rw [e, hlq] at hk2; exact ek (Option.some.inj hk2).symm
        have hne2 : (Z i).pl ≠ (Z k).pl := fun e => by rw [← e, hui] at hk2; exact hki (Option.some.inj hk2).symm
        rw [hplo k ek, hget _ (by omega), if_neg hne2]
        exact hk2
    · rw [hun r e, hplo k (fun e2 => e (by rw [e2, hqu] at hr; omega))]
      exact hk2
  · by_cases e : r = p
    · subst e
      have hx : x < l := by have := (List.getElem?_eq_some_iff.1 hc).1; rw [hunp, hlen] at this; exact this
      rw [hget x hx] at hc
      by_cases ex : (Z i).pl = x
      · rw [if_pos ex] at hc
        obtain rfl := Option.some.inj hc
        refine ⟨hqn, hqu, hqw, by rw [hplq, ex], fun e => ?_⟩
        rw [e] at hqp
        omega
      · rw [if_neg ex] at hc
        obtain ⟨a1, a2, a3, a4⟩ := h.un r hr x c hc
        have hcq : c ≠ q := fun e => by rw [e] at a4; omega
        exact ⟨a1, a2, a3, by rw [hplo c hcq, a4], fun e => by rw [e] at a4; exact ex a4⟩
    · rw [hun r e] at hc
      obtain ⟨a1, a2, a3, a4⟩ := h.un r hr x c hc
      exact ⟨a1, a2, a3, by rw [hplo c (fun e2 => e (by rw [e2, hqu] at a2; omega)), a4], fun e2 => e (by rw [e2, hp] at a2; omega)⟩
theorem Wo.wu {up : Nat → Nat} {Z Y : Nat → Dy} {n i : Nat} (hup : ∀ i, i < n → up i ≤ i) (h : Wo up Z Y n i) : Wu Y n := by
  refine ⟨fun x hx => ?_, fun x hx c hc => ?_, fun x y c hx hy h1 h2 => ?_⟩
  · rw [List.nodup_iff_pairwise_ne, List.pairwise_iff_getElem]
    intro a b ha hb hab e
    have h1 := (h.un x hx a _ (List.getElem?_eq_getElem ha)).2.2.2.1
    have h2 := (h.un x hx b _ (List.getElem?_eq_getElem hb)).2.2.2.1
    rw [e] at h1
    omega
  · obtain ⟨a, ha⟩ := List.getElem?_of_mem hc
    obtain ⟨h1, h2, _⟩ := h.un x hx a c ha
    have := hup c h1
    omega
  · obtain ⟨a, ha⟩ := List.getElem?_of_mem h1
    obtain ⟨b, hb⟩ := List.getElem?_of_mem h2
    have e1 := (h.un x hx a c ha).2.1
    have e2 := (h.un y hy b c hb).2.1
    omega
/-- those of a list ended -/
def endL (Z : Nat → Dy) (l : List Nat) (why : Int) : Nat → Dy := fun k => if k ∈ l ∧ (Z k).why = 0 then (Z k).ended why else Z k
theorem endL_nil (Z : Nat → Dy) (why : Int) : endL Z [] why = Z := funext fun k => by unfold endL; rw [if_neg (by simp)]
def endK (Z : Nat → Dy) (i : Nat) (why : Int) : Nat → Dy := if (Z i).why = 0 then C.upd Z i ((Z i).ended why) else Z
theorem endL_cons (Z : Nat → Dy) (x : Nat) (l : List Nat) (why : Int) (hx : x ∉ l) : endK (endL Z l why) x why = endL Z (x :: l) why := by
  have e : endL Z l why x = Z x := if_neg (fun h => hx h.1)
  unfold endK
  rw [e]
  refine funext fun k => ?_
  by_cases hk : k = x
  · subst hk
    by_cases hz : (Z k).why = 0
    · rw [if_pos hz, upd_same]
      exact (if_pos ⟨List.mem_cons_self .., hz⟩).symm
    · rw [if_neg hz, e]
      exact (if_neg (fun h => hz h.2)).symm
  · have e2 : (if (Z x).why = 0 then C.upd (endL Z l why) x ((Z x).ended why) else endL Z l why) k = endL Z l why k := by
      by_cases hz : (Z x).why = 0
      · rw [if_pos hz, upd_ne _ _ _ hk]
      · rw [if_neg hz]
    rw [e2]
    unfold endL
    simp [hk]
theorem Bf.mem {up : Nat → Nat} {Z Y : Nat → Dy} {n i : Nat} {L : List Nat} (hw : Wf up Z n) (h : Wo up Z Y n i) (hi : i < n) (hb : Bf Y n i L L.length) :
    ∀ k, k < n → (k ∈ L → k = i ∨ (Z k).why = 0) ∧ (k ∈ L → anc up i k = true) ∧ ((Z k).why = 0 → anc up i k = true → k ∈ L) := by
  have hu : ∀ k, k < n → ∀ j, j ≤ k → up j ≤ j := fun k hk j hj => hw.uple j (by omega)
  have hpar : ∀ k ∈ L, k = i ∨ ∃ y ∈ L, k ∈ (Y y).un := fun k hk => (hb.par k hk).imp id fun ⟨y, hy, h⟩ => ⟨y, List.mem_of_mem_take hy, h⟩
  have h0 : i ∈ L := List.mem_of_getElem? hb.hd
  intro k
  induction k using Nat.strongRecOn with
  | _ k ih =>
    intro hk
    refine ⟨fun hm => ?_, fun hm => ?_, fun hl ha => ?_⟩
    · rcases hpar k hm with e | ⟨y, hy, hc⟩
      · exact .inl e
      · obtain ⟨x, hx⟩ := List.getElem?_of_mem hc
        exact .inr (h.un y (hb.lt y hy) x k hx).2.2.1
    · rcases hpar k hm with e | ⟨y, hy, hc⟩
      · subst e; exact anc_self
      · obtain ⟨x, hx⟩ := List.getElem?_of_mem hc
        have e1 := (h.un y (hb.lt y hy) x k hx).2.1
        have := hw.uple k hk
        rw [anc_step (hu k hk) e1, (ih y (by omega) (by omega)).2.1 hy]
        simp
    · by_cases e : k = i
      · subst e; exact h0
      · cases hr : up k with
        | zero => rw [anc_root hr] at ha; simp at ha; exact absurd ha e
        | succ r =>
          have hrk := hw.uple k hk
          rw [anc_step (hu k hk) hr] at ha
          have ha2 : anc up i r = true := by simpa [e] using ha
          have hrl := (hw.live k hk hl r hr).1
          have hrL := (ih r (by omega) (by omega)).2.2 hrl ha2
          obtain ⟨a, ha⟩ := List.getElem?_of_mem hrL
          exact hb.cl a r (List.getElem?_eq_some_iff.1 ha).1 ha k (List.mem_of_getElem? (h.live k hk e hl r hr))
/-- behind it all -/
theorem Wf.cancelled {up : Nat → Nat} {Z Y : Nat → Dy} {n i : Nat} {L : List Nat} (hw : Wf up Z n) (h : Wo up Z Y n i) (hi : i < n) (hb : Bf Y n i L L.length) (hY : ¬ (Z i).why = 0 → Y = Z) (why : Int) (hwy : ¬ why = 0) :
    Wf up (endL Y L why) n ∧ ∀ k, k < n → (endL Y L why k).why = if (Z i).why = 0 ∧ (Z k).why = 0 ∧ anc up i k = true then why else (Z k).why := by
  have hM := Bf.mem hw h hi hb
  by_cases hl : (Z i).why = 0
  · -- it is not cancelled yet
    have hliv : ∀ k, k < n → k ∈ L → (Z k).why = 0 := fun k hk hm => by
      rcases (hM k hk).1 hm with e | e
      · rw [e]; exact hl
      · exact e
    have hin : ∀ k, k < n → k ∈ L → endL Y L why k = (Y k).ended why := fun k hk hm => if_pos ⟨hm, by rw [h.why]; exact hliv k hk hm⟩
    have hout : ∀ k, k ∉ L → endL Y L why k = Y k := fun k hm => if_neg (fun e => hm e.1)
    have hwhy : ∀ k, k < n → (endL Y L why k).why = if k ∈ L then why else (Z k).why := fun k hk => by
      by_cases hm : k ∈ L
      · rw [hin k hk hm, if_pos hm]; rfl
      · rw [hout k hm, if_neg hm, h.why]
    refine ⟨⟨hw.uple, fun k hk hz => ?_, fun k hk hz => ?_, fun k hk hz r hr => ?_, fun r hr x c hc => ?_⟩, fun k hk => ?_⟩
    · rw [hwhy k hk] at hz
      by_cases hm : k ∈ L
      · rw [if_pos hm] at hz; exact absurd hz hwy
      · rw [if_neg hm] at hz
        rw [hout k hm, h.abv, hw.abv k hk hz]
    · by_cases hm : k ∈ L
      · rw [hin k hk hm]; exact ⟨rfl, rfl⟩
      · rw [hwhy k hk, if_neg hm] at hz
        rw [hout k hm]
        exact ⟨by rw [h.abv]; exact (hw.dead k hk hz).1, h.dead k hk hz⟩
    · rw [hwhy k hk] at hz
      by_cases hm : k ∈ L
      · rw [if_pos hm] at hz; exact absurd hz hwy
      · rw [if_neg hm] at hz
        have hki : k ≠ i := fun e => hm (e ▸ List.mem_of_getElem? hb.hd)
        have hrn : r < n := by have := hw.uple k hk; omega
        have hu := h.live k hk hki hz r hr
        have hrm : r ∉ L := fun hr' => by
          obtain ⟨a, ha⟩ := List.getElem?_of_mem hr'
          exact hm (hb.cl a r (List.getElem?_eq_some_iff.1 ha).1 ha k (List.mem_of_getElem? hu))
        rw [hout r hrm, hout k hm, h.why]
        exact ⟨(hw.live k hk hz r hr).1, hu⟩
    · by_cases hm : r ∈ L
      · rw [hin r hr hm] at hc; simp [Dy.ended] at hc
      · rw [hout r hm] at hc
        obtain ⟨a1, a2, a3, a4, a5⟩ := h.un r hr x c hc
        have hcm : c ∉ L := fun hc' => by
          rcases hb.par c hc' with e | ⟨y, hy, hcy⟩
          · exact a5 e
          · have hyL := List.mem_of_mem_take hy
            obtain ⟨b, hb'⟩ := List.getElem?_of_mem hcy
            have := (h.un y (hb.lt y hyL) b c hb').2.1
            exact hm ((show r = y by omega) ▸ hyL)
        rw [hout c hcm, h.why]
        exact ⟨a1, a2, a3, a4⟩
    · rw [hwhy k hk]
      by_cases hm : k ∈ L
      · rw [if_pos hm, if_pos ⟨hl, hliv k hk hm, (hM k hk).2.1 hm⟩]
      · rw [if_neg hm, if_neg (fun e => hm ((hM k hk).2.2 e.2.1 e.2.2))]
  · have e := hY hl
    subst e
    have hall : ∀ k ∈ L, k = i := fun k => by
      induction k using Nat.strongRecOn with
      | _ k ih =>
        intro hk
        rcases hb.par k hk with e | ⟨y, hy, hc⟩
        · exact e
        · obtain ⟨x, hx⟩ := List.getElem?_of_mem hc
          have hyL := List.mem_of_mem_take hy
          obtain ⟨b1, b2, _⟩ := h.un y (hb.lt y hyL) x k hx
          have := hw.uple k b1
          have := ih y (by omega) hyL
          subst this
          rw [(hw.dead y hi hl).2] at hx
          simp at hx
    have hE : endL Y L why = Y := funext fun k => if_neg (fun e => hl (by rw [← hall k e.1]; exact e.2))
    rw [hE]
    exact ⟨hw, fun k hk => by rw [if_neg (fun e => hl e.1)]⟩
end Go.Proofs.Ytajbkgcgmkkpiaa.C
