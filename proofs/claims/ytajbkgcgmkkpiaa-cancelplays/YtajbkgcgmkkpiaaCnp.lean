/- The steps that came in; rows of tokens, numbers, events; what lies apart from the tokens. -/
import Derived.Test.YtajbkgcgmkkpiaaCnn
import Derived.Test.YtajbkgcgmkkpiaaHallB
import Derived.SizedLaws
import Derived.OpenShut
import Derived.Deep.Slices
namespace Go.Proofs.Ytajbkgcgmkkpiaa.C
open Go.ChangeShapes Go.WideShapes Go.ChangeAt Go.RowKit Go.Deep Go.Lib
/-- a step: its kind, on which token, why -/
structure Sp where
  kd : Int
  on : Int
  why : Int
def spL (s : Sp) : List Value := [.int .i64 s.kd, .int .i64 s.on, .int .i64 s.why]
structure Sp.Ok (s : Sp) : Prop where
  kd : -9223372036854775808 ≤ s.kd ∧ s.kd ≤ 9223372036854775807
  on : -9223372036854775808 ≤ s.on ∧ s.on ≤ 9223372036854775807
  why : -9223372036854775808 ≤ s.why ∧ s.why ≤ 9223372036854775807
def SR : S.Rec Try.prog Sp where
  st := 22
  et := 27
  n := 3
  bts := 24
  cs := spL
  hn := by decide
  len := fun _ => rfl
  one := fun a v hv => by
    rcases List.mem_cons.1 hv with rfl | hv
    · rfl
    rcases List.mem_cons.1 hv with rfl | hv
    · rfl
    rcases List.mem_cons.1 hv with rfl | hv
    · rfl
    cases hv
  und := Try.underlying22
  info := by
    have h : (Try.prog.info? 27).map (fun i => (i.zero.map (·.cells.size), i.size, i.bytes)) = some (some 3, 3, 24) := by kernel_rfl
    cases hq : Try.prog.info? 27 with
    | none => simp [hq] at h
    | some i =>
      simp only [hq, Option.map_some, Option.some.injEq, Prod.mk.injEq] at h
      cases hz : i.zero with
      | none => simp [hz] at h
      | some z => exact ⟨i, z, rfl, hz, by simpa [hz] using h.1, h.2.1, h.2.2⟩
  pos := by decide
def TR : S.Rec Try.prog (Option Nat) where
  st := 28
  et := 34
  n := 1
  bts := 8
  cs := fun o => [ptO o]
  hn := by decide
  len := fun _ => rfl
  one := fun a v hv => by
    rcases List.mem_cons.1 hv with rfl | hv
    · rfl
    cases hv
  und := Try.underlying28
  info := by
    have h : (Try.prog.info? 34).map (fun i => (i.zero.map (·.cells.size), i.size, i.bytes)) = some (some 1, 1, 8) := by kernel_rfl
    cases hq : Try.prog.info? 34 with
    | none => simp [hq] at h
    | some i =>
      simp only [hq, Option.map_some, Option.some.injEq, Prod.mk.injEq] at h
      cases hz : i.zero with
      | none => simp [hz] at h
      | some z => exact ⟨i, z, rfl, hz, by simpa [hz] using h.1, h.2.1, h.2.2⟩
  pos := by decide
def IR : S.Rec Try.prog Int where
  st := 42
  et := 3
  n := 1
  bts := 8
  cs := fun n => [.int .i64 n]
  hn := by decide
  len := fun _ => rfl
  one := fun a v hv => by
    rcases List.mem_cons.1 hv with rfl | hv
    · rfl
    cases hv
  und := Try.underlying42
  info := by
    have h : (Try.prog.info? 3).map (fun i => (i.zero.map (·.cells.size), i.size, i.bytes)) = some (some 1, 1, 8) := by kernel_rfl
    cases hq : Try.prog.info? 3 with
    | none => simp [hq] at h
    | some i =>
      simp only [hq, Option.map_some, Option.some.injEq, Prod.mk.injEq] at h
      cases hz : i.zero with
      | none => simp [hz] at h
      | some z => exact ⟨i, z, rfl, hz, by simpa [hz] using h.1, h.2.1, h.2.2⟩
  pos := by decide
def ER : S.Rec Try.prog (Nat × Int) where
  st := 43
  et := 46
  n := 2
  bts := 16
  cs := fun e => [.int .i64 (e.1 : Int), .int .i64 e.2]
  hn := by decide
  len := fun _ => rfl
  one := fun a v hv => by
    rcases List.mem_cons.1 hv with rfl | hv
    · rfl
    rcases List.mem_cons.1 hv with rfl | hv
    · rfl
    cases hv
  und := Try.underlying43
  info := by
    have h : (Try.prog.info? 46).map (fun i => (i.zero.map (·.cells.size), i.size, i.bytes)) = some (some 2, 2, 16) := by kernel_rfl
    cases hq : Try.prog.info? 46 with
    | none => simp [hq] at h
    | some i =>
      simp only [hq, Option.map_some, Option.some.injEq, Prod.mk.injEq] at h
      cases hz : i.zero with
      | none => simp [hz] at h
      | some z => exact ⟨i, z, rfl, hz, by simpa [hz] using h.1, h.2.1, h.2.2⟩
  pos := by decide
def RR : S.Rec Try.prog (Int × Int) where
  st := 29
  et := 112
  n := 2
  bts := 16
  cs := fun e => [.int .i64 e.1, .int .i64 e.2]
  hn := by decide
  len := fun _ => rfl
  one := fun a v hv => by
    rcases List.mem_cons.1 hv with rfl | hv
    · rfl
    rcases List.mem_cons.1 hv with rfl | hv
    · rfl
    cases hv
  und := Try.underlying29
  info := by
    have h : (Try.prog.info? 112).map (fun i => (i.zero.map (·.cells.size), i.size, i.bytes)) = some (some 2, 2, 16) := by kernel_rfl
    cases hq : Try.prog.info? 112 with
    | none => simp [hq] at h
    | some i =>
      simp only [hq, Option.map_some, Option.some.injEq, Prod.mk.injEq] at h
      cases hz : i.zero with
      | none => simp [hz] at h
      | some z => exact ⟨i, z, rfl, hz, by simpa [hz] using h.1, h.2.1, h.2.2⟩
  pos := by decide
theorem choose_list {α : Type} (p : Nat → α → Prop) (n : Nat) (hp : ∀ i, i < n → ∃ x, p i x) : ∃ l : List α, l.length = n ∧ ∀ (j : Nat) (hj : j < l.length), p j l[j] := by
  induction n with
  | zero => exact ⟨[], rfl, by intro j hj; simp at hj⟩
  | succ k ih =>
    obtain ⟨l, hl, hi⟩ := ih (fun i hi => hp i (by omega))
    obtain ⟨x, hx⟩ := hp k (by omega)
    refine ⟨l ++ [x], by simp [hl], fun j hj => ?_⟩
    by_cases hjk : j < l.length
    · rw [List.getElem_append_left hjk]; exact hi j hjk
    · have e : j = k := by simp [hl] at hj; omega
      subst e
      rw [List.getElem_append_right (by omega)]
      simpa [hl] using hx
section
variable {P : Program} {α : Type}
/-- a list behind a slice, however long -/
structure At0 (R : S.Rec P α) (w : World) (l : List α) (ao : Option Addr) (c : Nat) : Prop where
  lies : S.Lies w ao (R.flat l)
  cap : l.length ≤ c
  nil : ao = none → c = 0
theorem At0.below {R : S.Rec P α} {w w' : World} {l : List α} {ao : Option Addr} {c : Nat} (h : At0 R w l ao c) (hb : Below w.heap.size w w') : At0 R w' l ao c := ⟨h.lies.below hb, h.cap, h.nil⟩
theorem At0.get {R : S.Rec P α} {w : World} {l : List α} {ao : Option Addr} {c : Nat} (h : At0 R w l ao c) {i : Nat} (hi : i < l.length) : ∃ g o, ao = some ⟨g, o, none⟩ ∧ ∀ j v, (R.cs l[i])[j]? = some v → w.cell? ⟨g, o + i * R.n + j, none⟩ = some v := by
  obtain ⟨g, o, h1, h2⟩ := h.lies (by rw [R.flat_len]; exact Nat.mul_pos (by omega) R.hn)
  refine ⟨g, o, h1, fun j v hv => ?_⟩
  have hj : j < R.n := by have := (List.getElem?_eq_some_iff.1 hv).1; rwa [R.len] at this
  rw [Nat.add_assoc]
  exact h2 _ _ ((R.flat_get l i hi j hj).trans hv)
/-- a row of one's own, cell by cell -/
theorem own_get {R : S.Rec P α} {w : World} {B : Nat} {l : List α} {ao : Option Addr} {c : Nat} (h : R.Own w B l ao c) {i : Nat} (hi : i < l.length) : ∃ g, ao = some ⟨g, 0, none⟩ ∧ (∀ j v, (R.cs l[i])[j]? = some v → w.cell? ⟨g, i * R.n + j, none⟩ = some v) ∧ l.length ≤ c := by
  obtain ⟨h1, h2, h3, h4⟩ := S.own_lies h
  have ha : At0 R w l ao c := ⟨h1, h2, h3⟩
  obtain ⟨g, o, e, hr⟩ := ha.get hi
  obtain ⟨g', e'⟩ := S.own_addr h _ e
  cases e'
  refine ⟨g, e, fun j v hv => ?_, h2⟩
  have := hr j v hv
  rwa [Nat.zero_add] at this
end
/-- rows that are none of the tokens' lie as they lay -/
theorem own_fr {P : Program} {α : Type} {R : S.Rec P α} {B B' : Nat} {U V : World} {c : Nat} {l : List α} {ao : Option Addr} (h : R.Own U B l ao c) (hr : Fr B' U V) (h1 : R.et ≠ 98) (h2 : R.et ≠ 78) : R.Own V B l ao c := by
  refine S.own_keep h fun g hg => ?_
  rcases h.2 with ⟨hv, _⟩ | ⟨g', cap, cur, hv, _, hh, _⟩
  · rw [hv] at hg; cases hg
  · rw [hv] at hg
    obtain rfl : g' = g := Option.some.inj hg
    exact (hr.typ _ _ _ _ hh h1 h2).trans hh.symm
/-- the tokens lie as they lay where all but cells of one kind do -/
theorem Fo.keep {B : Nat} {W W' : World} {G : Geo} {Z : Nat → Dy} {n : Nat} (h : Fo B W G Z n) (t : TypeId) (h1 : t ≠ 89) (h2 : t ≠ 98) (h3 : t ≠ 78) (h4 : t ≠ 87) (hk : ∀ (b : Nat) (o : Obj), W.heap[b]? = some o → (∀ (c : Array Value) (f : Nat × Nat), o ≠ .cells c t f) → W'.heap[b]? = some o) : Fo B W' G Z n := by
  refine ⟨⟨h.fk.le, fun j hj => hk _ _ (h.fk.tok j hj) (by simp [Ne.symm h1]), fun j hj => hk _ _ (h.fk.kn j hj) (by simp [Ne.symm h2]), fun j hj => hk _ _ (h.fk.chn j hj) (by simp), fun j hj => ?_, h.fk.kinj, h.fk.cinj, h.fk.rinj, h.fk.lot, h.fk.low⟩, fun j hj => hk _ _ (h.lk j hj) (by simp [Ne.symm h4])⟩
  refine S.own_keep (h.fk.row j hj) fun x hx => ?_
  cases ha : (Z j).ua with
  | none => rw [ha] at hx; cases hx
  | some a =>
    rw [ha] at hx
    obtain rfl : a.block = x := Option.some.inj hx
    obtain ⟨_, c, hc⟩ := h.fk.rowb hj ha
    exact (hk _ _ hc (by simp [Ne.symm h3])).trans hc.symm
theorem Fo.below {B : Nat} {W W' : World} {G : Geo} {Z : Nat → Dy} {n : Nat} (h : Fo B W G Z n) (hb : Below W.heap.size W W') : Fo B W' G Z n :=
  ⟨h.fk.below hb, fun j hj => (hb.block _ (Array.getElem?_eq_some_iff.1 (h.lk j hj)).1).trans (h.lk j hj)⟩
/-- what an append to a row of one's own leaves alone -/
theorem put_keep {P : Program} {α : Type} {R : S.Rec P α} {B : Nat} {U V : World} {l m : List α} {ao ao' : Option Addr} {c n' c' : Nat} (ho : R.Own U B l ao c) (hp : R.Put U V B l m ao c ao' n' c') {b : Nat} {o : Obj} (hb : U.heap[b]? = some o) (hno : ∀ (c : Array Value) (f : Nat × Nat), o ≠ .cells c R.et f) : V.heap[b]? = some o :=
  (hp.grown.block b (Array.getElem?_eq_some_iff.1 hb).1 (fun e => by
    rcases ho.2 with ⟨hv, _⟩ | ⟨g, cap, cur, hv, _, hh, _⟩
    · rw [hv] at e; cases e
    · rw [hv] at e
      rw [← (Option.some.inj e : b = g), hb] at hh
      exact hno _ _ (Option.some.inj hh))).trans hb
/-- a row of another kind lies as it lay -/
theorem put_own {P Q : Program} {α β : Type} {R : S.Rec P α} {T : S.Rec Q β} {B B' : Nat} {U V : World} {l m : List α} {ao ao' : Option Addr} {c n' c' : Nat} (ho : R.Own U B l ao c) (hp : R.Put U V B l m ao c ao' n' c') {k : List β} {bo : Option Addr} {d : Nat} (h : T.Own U B' k bo d) (hne : T.et ≠ R.et) : T.Own V B' k bo d := by
  refine S.own_keep h fun g hg => ?_
  rcases h.2 with ⟨hv, _⟩ | ⟨g', cap, cur, hv, _, hh, _⟩
  · rw [hv] at hg; cases hg
  · rw [hv] at hg
    obtain rfl : g' = g := Option.some.inj hg
    exact (put_keep ho hp hh (by simp [hne])).trans hh.symm
section
variable {H : Type} {enc : TypeId × Value → H} {W : World}
theorem cInt : Try.prog.cellsOf 3 = 1 := by kernel_rfl
theorem cSp : Try.prog.cellsOf 27 = 3 := by kernel_rfl
theorem bSp : Try.prog.bytesOf 27 = 24 := by kernel_rfl
set_option maxRecDepth 100000 in
theorem open_sp {fuel : Nat} {cs : List Value} {x : DataW H × List MemPlace} (h : DataW.trod enc Try.prog W 0 (fun _ => true) true fuel 27 cs = some x) : ∃ e : Sp, e.Ok ∧ cs = spL e := by
  obtain ⟨xs, n, _, rfl, hl, hlen, hf⟩ := DataW.trod_struct Try.underlying27 h
  rw [cSp] at hl
  match xs, hlen, cs, hl with
  | [y0, y1, y2], _, [v0, v1, v2], _ =>
    have g0 : DataW.trod enc Try.prog W 0 (fun _ => true) true n 3 (List.take (Try.prog.cellsOf 3) (List.drop 0 [v0, v1, v2])) = some y0 := hf 0 _ rfl
    rw [cInt] at g0
    have g1 : DataW.trod enc Try.prog W 0 (fun _ => true) true n 3 (List.take (Try.prog.cellsOf 3) (List.drop 1 [v0, v1, v2])) = some y1 := hf 1 _ rfl
    rw [cInt] at g1
    have g2 : DataW.trod enc Try.prog W 0 (fun _ => true) true n 3 (List.take (Try.prog.cellsOf 3) (List.drop 2 [v0, v1, v2])) = some y2 := hf 2 _ rfl
    rw [cInt] at g2
    obtain ⟨z0, e0, _, w0⟩ := DataW.trod_int Try.underlying3 g0
    obtain ⟨z1, e1, _, w1⟩ := DataW.trod_int Try.underlying3 g1
    obtain ⟨z2, e2, _, w2⟩ := DataW.trod_int Try.underlying3 g2
    simp only [List.drop_zero, List.drop_succ_cons, List.take_succ_cons, List.take_zero, List.cons.injEq, and_true] at e0 e1 e2
    subst e0 e1 e2
    exact ⟨⟨z0, z1, z2⟩, ⟨bounds_i64 w0, bounds_i64 w1, bounds_i64 w2⟩, rfl⟩
theorem lies_sp {w : World} {b off : Nat} : ∀ (l : List Sp) (k : Nat), (∀ (j : Nat) (hj : j < l.length), w.rangeAt b (off + (k + j) * 3) (spL l[j])) → w.rangeAt b (off + k * 3) (SR.flat l)
  | [], _, _ => fun j v hv => by simp [S.Rec.flat] at hv
  | d :: l, k, h => by
    intro j v hv
    have e : SR.flat (d :: l) = .int .i64 d.kd :: .int .i64 d.on :: .int .i64 d.why :: SR.flat l := rfl
    rw [e] at hv
    have h0 := h 0 (by simp)
    match j, hv with
    | 0, hv => exact h0 0 v (by simpa [spL] using hv)
    | 1, hv => exact h0 1 v (by simpa [spL] using hv)
    | 2, hv => exact h0 2 v (by simpa [spL] using hv)
    | j + 3, hv =>
      have hr := lies_sp l (k + 1) (fun i hi => by
        have := h (i + 1) (by simpa using hi)
        rw [show k + 1 + i = k + (i + 1) by omega]
        simpa using this) j v (by simpa using hv)
      rw [show off + k * 3 + (j + 3) = off + (k + 1) * 3 + j by omega]
      exact hr
set_option maxRecDepth 100000 in
theorem open_sps {base : Nat} {v : Value} {d : DataW H} {ps : List MemPlace} (hval : Value.okWide Try.prog W .any base 22 v) (h : DataW.Trod enc Try.prog W 0 (fun _ => true) true 22 v d ps) (hz : (DataW.weights Try.prog 22 d).all (· ≤ reachBytes) = true) :
    ∃ (ao : Option Addr) (l : List Sp) (cap : Nat), v = .slice ao l.length cap ∧ At0 SR W l ao cap ∧ l.length * 24 ≤ 140737488355328 ∧ ∀ s ∈ l, s.Ok := by
  obtain ⟨a, len, cap, rfl⟩ := okWide_slice Try.underlying22 hval
  obtain ⟨fuel, hf⟩ := h
  rcases open_slice Try.underlying22 hf with ⟨hcs, hx⟩ | ⟨x, l', c', m, n, D, Pl, hcs, _, hl, hm, hmm, hx, hel⟩
  · simp [Value.cells] at hcs
    obtain ⟨rfl, rfl, rfl⟩ := hcs
    exact ⟨none, [], 0, rfl, ⟨S.Lies.nil _ _, Nat.le_refl _, fun _ => rfl⟩, by decide, fun s hs => by cases hs⟩
  · simp [Value.cells] at hcs
    obtain ⟨rfl, rfl, rfl⟩ := hcs
    simp only [Prod.mk.injEq] at hx
    obtain ⟨rfl, -⟩ := hx
    have hmle : len ≤ m := by rw [hmm]; simp; exact hl
    have hall := List.all_eq_true.1 hz
    have hlen : len * 24 ≤ reachBytes := by
      have h1 := hall _ (by simp only [DataW.weights, Try.underlying22]; exact List.mem_cons_self ..)
      simp only [decide_eq_true_eq, List.length_map, List.length_range, bSp] at h1
      have : (len + ((List.range (m - len)).map fun i => D (len + i)).length) * 24 ≤ reachBytes := by simpa using h1
      omega
    have hspot : 0 < len → x.spot = none := by
      intro h0
      obtain ⟨cs', h1, h2⟩ := hel 0 (by omega)
      rw [cSp] at h1
      obtain ⟨s, _, rfl⟩ := open_sp h2
      obtain ⟨_, _, hc⟩ := World.cells?_some h1
      have := World.cell?_spot (hc 0 (by decide))
      simpa [Addr.add] using this
    have each : ∀ i, i < len → ∃ s : Sp, s.Ok ∧ ∃ b off, x = ⟨b, off, none⟩ ∧ W.rangeAt b (off + i * 3) (spL s) := by
      intro i hi
      obtain ⟨cs', h1, h2⟩ := hel i (by omega)
      obtain ⟨s, hok, rfl⟩ := open_sp h2
      rw [cSp] at h1
      obtain ⟨_, _, hc⟩ := World.cells?_some h1
      have hsp := hspot (by omega)
      obtain ⟨b, off, spot⟩ := x
      simp only at hsp
      subst hsp
      simp only [Addr.add_mid] at hc
      refine ⟨s, hok, b, off, rfl, fun k v hv => ?_⟩
      obtain ⟨hk7, _⟩ := List.getElem?_eq_some_iff.1 hv
      exact (hc k hk7).trans hv
    obtain ⟨l, hll, hi⟩ := choose_list _ len each
    refine ⟨some x, l, cap, by rw [hll], ⟨fun h0 => ?_, by rw [hll]; exact hl, fun e => by cases e⟩, by have : reachBytes ≤ 140737488351232 := (by decide); omega, fun s hs => ?_⟩
    · rw [SR.flat_len] at h0
      have h00 : 0 < l.length := Nat.pos_of_ne_zero fun e => by rw [e] at h0; simp at h0
      obtain ⟨_, b, off, rfl, _⟩ := hi 0 h00
      refine ⟨b, off, rfl, ?_⟩
      have := lies_sp (w := W) (b := b) (off := off) l 0 (fun j hj => by
        obtain ⟨_, b', off', e, hat⟩ := hi j hj
        cases e
        rw [Nat.zero_add]; exact hat)
      simpa using this
    · obtain ⟨j, hj, rfl⟩ := List.mem_iff_getElem.1 hs
      exact (hi j hj).1
end
end Go.Proofs.Ytajbkgcgmkkpiaa.C
