/- Segments: what Merge tells, from either side; differences laid over one list make the other (mathematics). -/
import Derived.Test.YtbahlfpcbplofaaShb
namespace Go.Proofs.Ytbahlfpcbplofaa.S
open Go.RowKit Go.Lib
abbrev TE := Tell En En
abbrev Srt (l : List En) : Prop := l.Pairwise (fun x y => lt x.1 y.1 = true)
def lef (ts : List TE) : List En := ts.filterMap fun t => t.2.1
def swp (t : TE) : TE := (t.1, t.2.2, t.2.1)
def rig (ts : List TE) : List En := lef (ts.map swp)
def Fit1 (t : TE) : Prop := (∀ x, t.2.1 = some x → x.1 = t.1) ∧ (∀ y, t.2.2 = some y → y.1 = t.1) ∧ (t.2.1 = none → t.2.2 ≠ none)
theorem lef_app (p s : List TE) : lef (p ++ s) = lef p ++ lef s := List.filterMap_append ..
theorem rig_app (p s : List TE) : rig (p ++ s) = rig p ++ rig s := by unfold rig; rw [List.map_append, lef_app]
theorem lef_none (b : List En) : lef (b.map fun y => ((y.1, none, some y) : TE)) = [] := by
  induction b with
  | nil => rfl
  | cons y b ih => exact ih
theorem lef_some (a : List En) : lef (a.map fun x => ((x.1, some x, none) : TE)) = a := by
  induction a with
  | nil => rfl
  | cons x a ih => show x :: lef _ = x :: a; rw [ih]
theorem mrg_lef : ∀ a b : List En, lef (mgE a b) = a
  | [], b => by unfold mgE; rw [mrg_l]; exact lef_none b
  | x :: a, [] => by unfold mgE; rw [mrg_r]; exact lef_some (x :: a)
  | x :: a, y :: b => by
    unfold mgE
    by_cases h1 : lt x.1 y.1 = true
    · rw [mrg_lt (f := Prod.fst) (g := Prod.fst) h1]
      show x :: lef (mgE a (y :: b)) = x :: a
      rw [mrg_lef a (y :: b)]
    · by_cases h2 : lt y.1 x.1 = true
      · rw [mrg_gt (f := Prod.fst) (g := Prod.fst) h2]
        exact mrg_lef (x :: a) b
      · rw [mrg_eq (f := Prod.fst) (g := Prod.fst) (lt_total (by simpa using h1) (by simpa using h2))]
        show x :: lef (mgE a b) = x :: a
        rw [mrg_lef a b]
termination_by a b => a.length + b.length
theorem mrg_swp : ∀ a b : List En, mgE b a = (mgE a b).map swp
  | [], b => by unfold mgE; rw [mrg_l, mrg_r, List.map_map]; rfl
  | x :: a, [] => by unfold mgE; rw [mrg_l, mrg_r, List.map_map]; rfl
  | x :: a, y :: b => by
    unfold mgE
    by_cases h1 : lt x.1 y.1 = true
    · rw [mrg_lt (f := Prod.fst) (g := Prod.fst) h1, mrg_gt (f := Prod.fst) (g := Prod.fst) h1, List.map_cons]
      show _ :: mgE (y :: b) a = _
      rw [mrg_swp a (y :: b)]; rfl
    · by_cases h2 : lt y.1 x.1 = true
      · rw [mrg_gt (f := Prod.fst) (g := Prod.fst) h2, mrg_lt (f := Prod.fst) (g := Prod.fst) h2, List.map_cons]
        show _ :: mgE b (x :: a) = _
        rw [mrg_swp (x :: a) b]; rfl
      · have he : x.1 = y.1 := lt_total (by simpa using h1) (by simpa using h2)
        rw [mrg_eq (f := Prod.fst) (g := Prod.fst) he, mrg_eq (f := Prod.fst) (g := Prod.fst) he.symm, List.map_cons]
        show _ :: mgE b a = _
        rw [mrg_swp a b, ← he]; rfl
termination_by a b => a.length + b.length
theorem mrg_rig (a b : List En) : rig (mgE a b) = b := by unfold rig; rw [← mrg_swp, mrg_lef]
theorem mrg_fit : ∀ a b : List En, ∀ t ∈ mgE a b, Fit1 t
  | [], b => fun t ht => by
    unfold mgE at ht
    rw [mrg_l] at ht
    obtain ⟨y, _, rfl⟩ := List.mem_map.1 ht
    exact ⟨fun x h => (by cases h), fun z h => (by cases h; rfl), fun _ h => by cases h⟩
  | x :: a, [] => fun t ht => by
    unfold mgE at ht
    rw [mrg_r] at ht
    obtain ⟨y, _, rfl⟩ := List.mem_map.1 ht
    exact ⟨fun x h => (by cases h; rfl), fun z h => (by cases h), fun h => by cases h⟩
  | x :: a, y :: b => fun t ht => by
    unfold mgE at ht
    by_cases h1 : lt x.1 y.1 = true
    · rw [mrg_lt (f := Prod.fst) (g := Prod.fst) h1] at ht
      rcases List.mem_cons.1 ht with rfl | ht
      · exact ⟨fun x h => (by cases h; rfl), fun z h => (by cases h), fun h => by cases h⟩
      · exact mrg_fit a (y :: b) t ht
    · by_cases h2 : lt y.1 x.1 = true
      · rw [mrg_gt (f := Prod.fst) (g := Prod.fst) h2] at ht
        rcases List.mem_cons.1 ht with rfl | ht
        · exact ⟨fun x h => (by cases h), fun z h => (by cases h; rfl), fun _ h => by cases h⟩
        · exact mrg_fit (x :: a) b t ht
      · have he : x.1 = y.1 := lt_total (by simpa using h1) (by simpa using h2)
        rw [mrg_eq (f := Prod.fst) (g := Prod.fst) he] at ht
        rcases List.mem_cons.1 ht with rfl | ht
        · exact ⟨fun x h => (by cases h; rfl), fun z h => (by cases h; exact he.symm), fun h => by cases h⟩
        · exact mrg_fit a b t ht
termination_by a b => a.length + b.length
theorem lef_mem {ts : List TE} {t : TE} {x : En} (h : t ∈ ts) (hx : t.2.1 = some x) : x ∈ lef ts := List.mem_filterMap.2 ⟨t, h, hx⟩
theorem rig_mem {ts : List TE} {t : TE} {y : En} (h : t ∈ ts) (hy : t.2.2 = some y) : y ∈ rig ts := lef_mem (t := swp t) (List.mem_map.2 ⟨t, h, rfl⟩) hy
theorem mem_lef {ts : List TE} {x : En} (h : x ∈ lef ts) : ∃ t ∈ ts, t.2.1 = some x := List.mem_filterMap.1 h
theorem mem_rig {ts : List TE} {y : En} (h : y ∈ rig ts) : ∃ t ∈ ts, t.2.2 = some y := by
  obtain ⟨t, ht, h1⟩ := mem_lef h
  obtain ⟨s, hs, rfl⟩ := List.mem_map.1 ht
  exact ⟨s, hs, h1⟩
theorem key_in {a b : List En} {t : TE} (h : t ∈ mgE a b) : (∃ x ∈ a, x.1 = t.1) ∨ ∃ y ∈ b, y.1 = t.1 := by
  obtain ⟨h1, h2, h3⟩ := mrg_fit a b t h
  cases hx : t.2.1 with
  | some x => exact .inl ⟨x, by have := lef_mem h hx; rwa [mrg_lef] at this, h1 x hx⟩
  | none =>
    cases hy : t.2.2 with
    | some y => exact .inr ⟨y, by have := rig_mem h hy; rwa [mrg_rig] at this, h2 y hy⟩
    | none => exact absurd hy (h3 hx)
abbrev Rise (ts : List TE) : Prop := ts.Pairwise (fun s t => lt s.1 t.1 = true)
theorem mrg_rise : ∀ a b : List En, Srt a → Srt b → Rise (mgE a b)
  | [], b => fun _ hb => by unfold mgE; rw [mrg_l]; exact List.pairwise_map.2 hb
  | x :: a, [] => fun ha _ => by unfold mgE; rw [mrg_r]; exact List.pairwise_map.2 ha
  | x :: a, y :: b => fun ha hb => by
    have ha1 := (List.pairwise_cons.1 ha)
    have hb1 := (List.pairwise_cons.1 hb)
    unfold mgE
    by_cases h1 : lt x.1 y.1 = true
    · rw [mrg_lt (f := Prod.fst) (g := Prod.fst) h1]
      refine List.pairwise_cons.2 ⟨fun t ht => ?_, mrg_rise a (y :: b) ha1.2 hb⟩
      rcases key_in ht with ⟨z, hz, he⟩ | ⟨z, hz, he⟩
      · rw [← he]; exact ha1.1 z hz
      · rw [← he]
        rcases List.mem_cons.1 hz with rfl | hz
        · exact h1
        · exact lt_trans h1 (hb1.1 z hz)
    · by_cases h2 : lt y.1 x.1 = true
      · rw [mrg_gt (f := Prod.fst) (g := Prod.fst) h2]
        refine List.pairwise_cons.2 ⟨fun t ht => ?_, mrg_rise (x :: a) b ha hb1.2⟩
        rcases key_in ht with ⟨z, hz, he⟩ | ⟨z, hz, he⟩
        · rw [← he]
          rcases List.mem_cons.1 hz with rfl | hz
          · exact h2
          · exact lt_trans h2 (ha1.1 z hz)
        · rw [← he]; exact hb1.1 z hz
      · have he : x.1 = y.1 := lt_total (by simpa using h1) (by simpa using h2)
        rw [mrg_eq (f := Prod.fst) (g := Prod.fst) he]
        refine List.pairwise_cons.2 ⟨fun t ht => ?_, mrg_rise a b ha1.2 hb1.2⟩
        rcases key_in ht with ⟨z, hz, he2⟩ | ⟨z, hz, he2⟩
        · rw [← he2]; exact ha1.1 z hz
        · rw [← he2]; show lt x.1 z.1 = true; rw [he]; exact hb1.1 z hz
termination_by a b => a.length + b.length
/- differences -/
theorem difs_app (p s : List TE) : difs (p ++ s) = difs p ++ difs s := List.flatMap_append ..
theorem difs_swp (ts : List TE) : difs (ts.map swp) = (difs ts).map fun d => (d.1, d.2.2, d.2.1) := by
  induction ts with
  | nil => rfl
  | cons t ts ih =>
    unfold difs at *
    rw [List.map_cons, List.flatMap_cons, List.flatMap_cons, List.map_append, ih]
    congr 1
    unfold dif1
    show (if sm t.2.2 = sm t.2.1 then _ else _) = _
    by_cases h : sm t.2.1 = sm t.2.2
    · rw [if_pos h, if_pos h.symm]; rfl
    · rw [if_neg h, if_neg fun e => h e.symm]; rfl
theorem difs_find : ∀ {s : List TE} {d : Df} {ds : List Df}, difs s = d :: ds → ∃ q t s', s = q ++ t :: s' ∧ difs q = [] ∧ dif1 t = [d] ∧ difs s' = ds
  | [], _, _, h => by cases h
  | t :: s, d, ds, h => by
    have e1 : difs (t :: s) = dif1 t ++ difs s := List.flatMap_cons ..
    rw [e1] at h
    by_cases he : sm t.2.1 = sm t.2.2
    · have e2 : dif1 t = [] := by unfold dif1; rw [if_pos he]
      rw [e2, List.nil_append] at h
      obtain ⟨q, t', s', h1, h2, h3, h4⟩ := difs_find h
      refine ⟨t :: q, t', s', by rw [h1]; rfl, ?_, h3, h4⟩
      have e3 : difs (t :: q) = dif1 t ++ difs q := List.flatMap_cons ..
      rw [e3, e2, h2]; rfl
    · have e2 : dif1 t = [(t.1, sm t.2.1, sm t.2.2)] := by unfold dif1; rw [if_neg he]
      rw [e2, List.singleton_append] at h
      exact ⟨[], t, s, rfl, rfl, by rw [e2, (List.cons.inj h).1], (List.cons.inj h).2⟩
theorem dif1_key {t : TE} {d : Df} (h : d ∈ dif1 t) : d = (t.1, sm t.2.1, sm t.2.2) ∧ d.2.1 ≠ d.2.2 := by
  unfold dif1 at h
  split at h
  · cases h
  · rename_i hn
    rw [List.mem_singleton] at h
    subst h
    exact ⟨rfl, hn⟩
theorem difs_rise {ts : List TE} (h : Rise ts) : (difs ts).Pairwise (fun c d => lt c.1 d.1 = true) := by
  induction ts with
  | nil => exact List.Pairwise.nil
  | cons t ts ih =>
    obtain ⟨h1, h2⟩ := List.pairwise_cons.1 h
    have e1 : difs (t :: ts) = dif1 t ++ difs ts := List.flatMap_cons ..
    rw [e1]
    refine List.pairwise_append.2 ⟨?_, ih h2, fun c hc d hd => ?_⟩
    · unfold dif1
      split
      · exact List.Pairwise.nil
      · exact List.pairwise_singleton ..
    · obtain ⟨s, hs, hd⟩ := List.mem_flatMap.1 hd
      rw [(dif1_key hc).1, (dif1_key hd).1]
      exact h1 s hs
/- what a list has of a key -/
def hasV : List En → ByteArray → ByteArray
  | [], _ => eB
  | e :: l, k => if e.1 = k then e.2 else hasV l k
theorem hasV_none {k : ByteArray} : ∀ {l : List En}, (∀ e ∈ l, e.1 ≠ k) → hasV l k = eB
  | [], _ => rfl
  | e :: l, h => by
    rw [hasV, if_neg (h e List.mem_cons_self)]
    exact hasV_none fun x hx => h x (List.mem_cons_of_mem _ hx)
theorem hasV_tell : ∀ {ts : List TE}, Rise ts → (∀ t ∈ ts, Fit1 t) → ∀ t ∈ ts, hasV (lef ts) t.1 = sm t.2.1
  | [], _, _, _, h => by cases h
  | s :: ts, hr, hf, t, ht => by
    obtain ⟨h1, h2⟩ := List.pairwise_cons.1 hr
    have hf2 : ∀ t ∈ ts, Fit1 t := fun t h => hf t (List.mem_cons_of_mem _ h)
    have hfs := hf s List.mem_cons_self
    have hgt : ∀ e ∈ lef ts, lt s.1 e.1 = true := fun e he => by
      obtain ⟨t', ht', hx⟩ := mem_lef he
      rw [(hf2 t' ht').1 e hx]; exact h1 t' ht'
    have e1 : ∀ x, s.2.1 = some x → lef (s :: ts) = x :: lef ts := fun x hx => List.filterMap_cons_some hx
    have e0 : s.2.1 = none → lef (s :: ts) = lef ts := fun hx => List.filterMap_cons_none hx
    rcases List.mem_cons.1 ht with rfl | ht
    · cases hx : t.2.1 with
      | some x =>
        rw [e1 x hx, hasV, if_pos (hfs.1 x hx)]; rfl
      | none =>
        rw [e0 hx, hasV_none fun e he h => lt_ne (hgt e he) h.symm]; rfl
    · cases hx : s.2.1 with
      | some x =>
        rw [e1 x hx, hasV, if_neg (by rw [hfs.1 x hx]; exact lt_ne (h1 t ht))]
        exact hasV_tell h2 hf2 t ht
      | none => rw [e0 hx]; exact hasV_tell h2 hf2 t ht
theorem hasV_left {a b : List En} (ha : Srt a) (hb : Srt b) {t : TE} (h : t ∈ mgE a b) : hasV a t.1 = sm t.2.1 := by
  have := hasV_tell (mrg_rise a b ha hb) (mrg_fit a b) t h
  rwa [mrg_lef] at this
theorem hasV_right {a b : List En} (ha : Srt a) (hb : Srt b) {t : TE} (h : t ∈ mgE a b) : hasV b t.1 = sm t.2.2 :=
  hasV_left (t := swp t) hb ha (by rw [mrg_swp]; exact List.mem_map.2 ⟨t, h, rfl⟩)
/- lists that may be -/
theorem ok_iff {l : List En} {wd : Int} : Ok l wd ↔ widP wd ∧ (∀ e ∈ l, keyE e.1 = 0 ∧ (e.2.size : Int) = wd) ∧ Srt l := by
  constructor
  · intro h
    refine ⟨h.1, fun e he => ?_, h.pair⟩
    obtain ⟨i, hi, rfl⟩ := List.getElem_of_mem he
    exact ⟨(h.2 i hi).1, (h.2 i hi).2.1⟩
  · rintro ⟨h1, h2, h3⟩
    refine ⟨h1, fun i hi => ⟨(h2 _ (List.getElem_mem hi)).1, (h2 _ (List.getElem_mem hi)).2, fun h0 => ?_⟩⟩
    exact List.pairwise_iff_getElem.1 h3 (i - 1) i (by omega) hi (by omega)
theorem sm_size {wd : Int} (hw : widP wd) {e : En} (h : (e.2.size : Int) = wd) : e.2 ≠ eB := fun he => by
  have h1 : (eB : ByteArray).size = 0 := rfl
  rw [he, h1] at h
  have := hw.1
  omega
section
variable {a b : List En} {wd : Int} (ha : Ok a wd) (hb : Ok b wd)
include ha hb
theorem tell_l {t : TE} (h : t ∈ mgE a b) {x : En} (hx : t.2.1 = some x) : x ∈ a ∧ x.1 = t.1 ∧ x.2 ≠ eB := by
  have _ := hb
  have h1 : x ∈ a := by have := lef_mem h hx; rwa [mrg_lef] at this
  exact ⟨h1, (mrg_fit a b t h).1 x hx, sm_size ha.1 ((ok_iff.1 ha).2.1 x h1).2⟩
theorem tell_r {t : TE} (h : t ∈ mgE a b) {y : En} (hy : t.2.2 = some y) : y ∈ b ∧ y.1 = t.1 ∧ y.2 ≠ eB := by
  have _ := ha
  have h1 : y ∈ b := by have := rig_mem h hy; rwa [mrg_rig] at this
  exact ⟨h1, (mrg_fit a b t h).2.1 y hy, sm_size hb.1 ((ok_iff.1 hb).2.1 y h1).2⟩
theorem tell_same {t : TE} (h : t ∈ mgE a b) (he : sm t.2.1 = sm t.2.2) : t.2.1 = t.2.2 := by
  cases hx : t.2.1 with
  | none =>
    cases hy : t.2.2 with
    | none => rfl
    | some y => rw [hx, hy] at he; exact absurd he.symm (tell_r ha hb h hy).2.2
  | some x =>
    cases hy : t.2.2 with
    | none => rw [hx, hy] at he; exact absurd he (tell_l ha hb h hx).2.2
    | some y =>
      rw [hx, hy] at he
      rw [show x = y from Prod.ext ((tell_l ha hb h hx).2.1.trans (tell_r ha hb h hy).2.1.symm) he]
theorem same_none : ∀ q : List TE, (∀ t ∈ q, t ∈ mgE a b) → difs q = [] → rig q = lef q
  | [], _, _ => rfl
  | t :: q, hm, h => by
    have e1 : difs (t :: q) = dif1 t ++ difs q := List.flatMap_cons ..
    rw [e1] at h
    obtain ⟨h1, h2⟩ := List.append_eq_nil_iff.1 h
    have hs : sm t.2.1 = sm t.2.2 := by
      unfold dif1 at h1
      by_cases h3 : sm t.2.1 = sm t.2.2
      · exact h3
      · rw [if_neg h3] at h1; cases h1
    have h4 := tell_same ha hb (hm t List.mem_cons_self) hs
    have ih := same_none q (fun t h => hm t (List.mem_cons_of_mem _ h)) h2
    have er : rig (t :: q) = (match t.2.2 with | some y => [y] | none => []) ++ rig q := by
      unfold rig lef swp
      rw [List.map_cons]
      cases hy : t.2.2 with
      | none => rw [List.filterMap_cons_none (by rfl)]; rfl
      | some y => rw [List.filterMap_cons_some (by rfl)]; rfl
    have el : lef (t :: q) = (match t.2.1 with | some y => [y] | none => []) ++ lef q := by
      unfold lef
      cases hy : t.2.1 with
      | none => rw [List.filterMap_cons_none (by exact hy)]; rfl
      | some y => rw [List.filterMap_cons_some (by exact hy)]; rfl
    rw [er, el, ih, h4]
theorem difs_nil : difs (mgE a b) = [] ↔ a = b := by
  constructor
  · intro h
    have := same_none ha hb (mgE a b) (fun _ h => h) h
    rw [mrg_rig, mrg_lef] at this
    exact this.symm
  · intro h
    refine List.eq_nil_iff_forall_not_mem.2 fun d hd => ?_
    obtain ⟨t, ht, hd⟩ := List.mem_flatMap.1 hd
    obtain ⟨h1, h2⟩ := dif1_key hd
    have h3 := hasV_left ha.pair hb.pair ht
    have h4 := hasV_right ha.pair hb.pair ht
    rw [h1] at h2
    have h5 : hasV a t.1 = hasV b t.1 := by rw [h]
    exact h2 (h3.symm.trans (h5.trans h4))
end
/-- what the loop has made behind the first i differences -/
def PS (a b : List En) (i : Nat) (nl : List En) : Prop := ∃ p s, mgE a b = p ++ s ∧ (difs p).length = i ∧ nl = rig p ++ lef s
theorem PS.zero (a b : List En) : PS a b 0 a := ⟨[], mgE a b, rfl, rfl, by rw [mrg_lef]; rfl⟩
section
variable {a b : List En} {wd : Int} (ha : Ok a wd) (hb : Ok b wd)
include ha hb
theorem PS.done {nl : List En} (h : PS a b (difs (mgE a b)).length nl) : nl = b := by
  obtain ⟨p, s, h1, h2, rfl⟩ := h
  have h3 : difs s = [] := by
    rw [h1, difs_app, List.length_append] at h2
    exact List.eq_nil_of_length_eq_zero (by omega)
  have h4 := same_none ha hb s (fun t h => by rw [h1]; exact List.mem_append_right _ h) h3
  rw [← h4, ← rig_app, ← h1, mrg_rig]
theorem now_ok {p s : List TE} (h : mgE a b = p ++ s) : Ok (rig p ++ lef s) wd := by
  have hr : Rise (p ++ s) := h ▸ mrg_rise a b ha.pair hb.pair
  have hrb : rig p ++ rig s = b := by rw [← rig_app, ← h, mrg_rig]
  have hla : lef p ++ lef s = a := by rw [← lef_app, ← h, mrg_lef]
  have hb2 := ok_iff.1 hb
  have ha2 := ok_iff.1 ha
  refine ok_iff.2 ⟨ha.1, fun e he => ?_, List.pairwise_append.2 ⟨?_, ?_, fun x hx y hy => ?_⟩⟩
  · rcases List.mem_append.1 he with he | he
    · exact hb2.2.1 e (by rw [← hrb]; exact List.mem_append_left _ he)
    · exact ha2.2.1 e (by rw [← hla]; exact List.mem_append_right _ he)
  · have := hb2.2.2; rw [← hrb] at this; exact (List.pairwise_append.1 this).1
  · have := ha2.2.2; rw [← hla] at this; exact (List.pairwise_append.1 this).2.1
  · obtain ⟨t, ht, h1⟩ := mem_rig hx
    obtain ⟨u, hu, h2⟩ := mem_lef hy
    rw [(tell_r ha hb (h ▸ List.mem_append_left _ ht) h1).2.1, (tell_l ha hb (h ▸ List.mem_append_right _ hu) h2).2.1]
    exact (List.pairwise_append.1 hr).2.2 t ht u hu
theorem PS.next {i : Nat} {nl : List En} (h : PS a b i nl) {d : Df} (hi : (difs (mgE a b))[i]? = some d) :
    hasV a d.1 = d.2.1 ∧ hasV b d.1 = d.2.2 ∧ d.2.1 ≠ d.2.2 ∧ ∃ nl', PS a b (i + 1) nl' ∧ ((d.2.2 = eB ∧ takV nl d.1 = (nl', true)) ∨ (d.2.2 ≠ eB ∧ putV nl (d.1, d.2.2) = (nl', 0))) := by
  obtain ⟨p, s, h1, h2, rfl⟩ := h
  have h3 : difs s = d :: (difs s).tail := by
    rw [h1, difs_app, List.getElem?_append_right (by omega), h2, Nat.sub_self] at hi
    cases hs : difs s with
    | nil => rw [hs] at hi; cases hi
    | cons e ds => rw [hs] at hi; cases hi; rfl
  obtain ⟨q, t, s', rfl, hq, ht, hs'⟩ := difs_find h3
  have hr : Rise (p ++ (q ++ t :: s')) := h1 ▸ mrg_rise a b ha.pair hb.pair
  have htm : t ∈ mgE a b := by rw [h1]; simp
  obtain ⟨hd1, hd2⟩ := dif1_key (t := t) (d := d) (by rw [ht]; exact List.mem_singleton.2 rfl)
  have hl := hasV_left ha.pair hb.pair htm
  have hrr := hasV_right ha.pair hb.pair htm
  have hqq := same_none ha hb q (fun t h => by rw [h1]; simp [h]) hq
  have h1' : mgE a b = (p ++ q) ++ (t :: s') := by rw [h1, List.append_assoc]
  have h1'' : mgE a b = (p ++ q ++ [t]) ++ s' := by rw [h1]; simp
  have hnow : rig p ++ lef (q ++ t :: s') = rig (p ++ q) ++ lef (t :: s') := by rw [lef_app, rig_app, hqq, List.append_assoc]
  have hok : Ok (rig (p ++ q) ++ lef (t :: s')) wd := now_ok ha hb h1'
  have hr' : Rise ((p ++ q) ++ (t :: s')) := by rw [← h1', h1]; exact hr
  have hpl : ∀ y ∈ rig (p ++ q), lt y.1 t.1 = true := fun y hy => by
    obtain ⟨u, hu, h5⟩ := mem_rig hy
    rw [(tell_r ha hb (by rw [h1']; exact List.mem_append_left _ hu) h5).2.1]
    exact (List.pairwise_append.1 hr').2.2 u hu t List.mem_cons_self
  have hsg : ∀ x ∈ lef s', lt t.1 x.1 = true := fun x hx => by
    obtain ⟨u, hu, h5⟩ := mem_lef hx
    rw [(tell_l ha hb (by rw [h1']; exact List.mem_append_right _ (List.mem_cons_of_mem _ hu)) h5).2.1]
    exact (List.pairwise_cons.1 (List.pairwise_append.1 hr').2.1).1 u hu
  have hln : (difs (p ++ q ++ [t])).length = i + 1 := by
    rw [difs_app, difs_app, hq, List.append_nil, List.length_append, h2]
    show i + (dif1 t ++ []).length = i + 1
    rw [ht]; rfl
  subst hd1
  refine ⟨hl, hrr, hd2, rig (p ++ q ++ [t]) ++ lef s', ⟨p ++ q ++ [t], s', h1'', hln, rfl⟩, ?_⟩
  rw [hnow]
  have erig : rig (p ++ q ++ [t]) = rig (p ++ q) ++ (match t.2.2 with | some y => [y] | none => []) := by
    rw [rig_app]
    congr 1
    unfold rig lef swp
    cases hy : t.2.2 with
    | none => simp [hy]
    | some y => simp [hy]
  have elef : lef (t :: s') = (match t.2.1 with | some y => [y] | none => []) ++ lef s' := by
    unfold lef
    cases hy : t.2.1 with
    | none => rw [List.filterMap_cons_none (by exact hy)]; rfl
    | some y => rw [List.filterMap_cons_some (by exact hy)]; rfl
  cases hy : t.2.2 with
  | none =>
    refine .inl ⟨rfl, ?_⟩
    cases hx : t.2.1 with
    | none => exact absurd hy ((mrg_fit a b t htm).2.2 hx)
    | some x =>
      obtain ⟨_, hxk, _⟩ := tell_l ha hb htm hx
      rw [hx] at elef
      rw [hy] at erig
      rw [takV_eq hok.li]
      have hkt : hk t.1 (rig (p ++ q) ++ lef (t :: s')) = true := by
        unfold hk
        rw [elef, List.any_append, List.any_append]
        simp [hxk]
      rw [if_pos hkt, erig, elef, List.filter_append, List.filter_append]
      have f1 : (rig (p ++ q)).filter (nk t.1) = rig (p ++ q) := List.filter_eq_self.2 fun y hy => by
        unfold nk; rw [decide_eq_false (lt_ne (hpl y hy))]; rfl
      have f2 : ([x] : List En).filter (nk t.1) = [] := by
        rw [List.filter_cons_of_neg (by unfold nk; rw [decide_eq_true hxk]; decide), List.filter_nil]
      rw [f1, f2, nk_all hsg]
      simp
  | some y =>
    obtain ⟨hyb, hyk, hyn⟩ := tell_r ha hb htm hy
    refine .inr ⟨hyn, ?_⟩
    have hye : ((t.1, sm (some y)) : En) = y := Prod.ext hyk.symm rfl
    rw [hye]
    have hys := (ok_iff.1 hb).2.1 y hyb
    have ho1 : okB (rig (p ++ q) ++ lef (t :: s')) y.2.size = true := okB_true.2 (by rw [hys.2]; exact hok)
    have ho2 : okB [y] y.2.size = true := okB_true.2 (ok_one hys.1 rfl (by rw [hys.2]; exact hb.1))
    unfold putV
    rw [if_pos ⟨ho1, ho2⟩, puts_pre y _ _ (fun z hz => by rw [hyk]; exact hpl z hz), erig, hy]
    have : puts (mgE (lef (t :: s')) [y]) = y :: lef s' := by
      cases hx : t.2.1 with
      | some x =>
        obtain ⟨_, hxk, _⟩ := tell_l ha hb htm hx
        rw [elef, hx]
        exact puts_eq (hxk.trans hyk.symm)
      | none =>
        rw [elef, hx]
        show puts (mgE (lef s') [y]) = _
        cases hz : lef s' with
        | nil => exact puts_nil y
        | cons z r => exact puts_gt (by rw [hyk]; exact hsg z (by rw [hz]; exact List.mem_cons_self))
    rw [this]
    simp
end
theorem both_ok {a b : List En} (h1 : liB a = true) (h2 : liB b = true) (h : ∀ (ha : 0 < a.length) (hb : 0 < b.length), a[0].2.size = b[0].2.size) : ∃ wd, Ok a wd ∧ Ok b wd := by
  rcases li_ok h1 with rfl | ⟨w1, o1⟩
  · rcases li_ok h2 with rfl | ⟨w2, o2⟩
    · exact ⟨1, okB_true.1 (okB_nil (by decide)), okB_true.1 (okB_nil (by decide))⟩
    · exact ⟨w2, okB_true.1 (okB_nil o2.1), o2⟩
  · rcases li_ok h2 with rfl | ⟨w2, o2⟩
    · exact ⟨w1, o1, okB_true.1 (okB_nil o1.1)⟩
    · by_cases ha : 0 < a.length
      · by_cases hb : 0 < b.length
        · have := h ha hb
          have e1 := o1.wid 0 ha
          have e2 := o2.wid 0 hb
          refine ⟨w1, o1, ?_⟩
          have e : w1 = w2 := by omega
          rw [e]; exact o2
        · obtain rfl : b = [] := List.eq_nil_of_length_eq_zero (by omega)
          exact ⟨w1, o1, okB_true.1 (okB_nil o1.1)⟩
      · obtain rfl : a = [] := List.eq_nil_of_length_eq_zero (by omega)
        exact ⟨w2, okB_true.1 (okB_nil o2.1), o2⟩
end Go.Proofs.Ytbahlfpcbplofaa.S
