/- Tokens: take: one laid under another. -/
import Derived.Test.YtajbkgcgmkkpiaaCnh
namespace Go.Proofs.Ytajbkgcgmkkpiaa.C
open Go.RowKit Go.Lib Go.MuLone Go.Conc
section
variable {B : Nat} {W W' : World} {G : Geo} {Z : Nat → Dy} {m n : Nat}
theorem Fr.cells {w : World} (g : Nat) {cs : Array Value} (hg : w.heap[g]? = some (.cells cs 98 (0, 0))) (hB : B ≤ g) (k : Nat) (v : Value) : Fr B w (w.setCell ⟨g, k, none⟩ v) :=
  ⟨rfl, rfl, rfl, by simp [World.setCell], fun b hb _ => hcOther (by omega), fun b c t f h h1 _ => (hcOther (fun e => by rw [e, hg] at h; simp at h; exact h1 h.2.1.symm)).trans h, fun b c u l s r q h _ => (hcOther (fun e => by rw [e, hg] at h; simp at h)).trans h⟩
/-- one that was laid under another -/
def Dy.laid (d : Dy) (p k : Nat) : Dy := { d with abv := p + 1, pl := k }
def Dy.with (d : Dy) (un : List Nat) (ua : Option Addr) (uc : Nat) : Dy := { d with un := un, ua := ua, uc := uc }
theorem take_low (h : Fk B W G Z m n) {p q : Nat} (hq : q < n) (k : Nat) :
    Fk B ((W.setCell ⟨G.kb q, 6, none⟩ (.pointer (some ⟨G.kb p, 0, none⟩))).setCell ⟨G.kb q, 8, none⟩ (.int .i64 k)) G (C.upd Z q ((Z q).laid p k)) m n := by
  have lt : ∀ {b : Nat} {o : Obj}, W.heap[b]? = some o → b < W.heap.size := fun e => (Array.getElem?_eq_some_iff.1 e).1
  refine h.upd hq _ W.heap.size ?_ ?_ (fun b _ h1 _ _ => (hcOther h1).trans (hcOther h1)) ?_ (fun j hj => by have := lt (h.tok j hj); omega) (fun j hj => ⟨by have := lt (h.kn j hj); omega, by have := lt (h.chn j hj); omega⟩) (fun j hj hne a ha => ⟨by obtain ⟨_, cs, e⟩ := h.rowb hj ha; have := lt e; omega, fun b hb e => hne (h.rinj j q hj hq a b ha hb e)⟩)
  · have := hcSame (hcSame (h.kn q hq) 6 (.pointer (some ⟨G.kb p, 0, none⟩))) 8 (.int .i64 k)
    exact this
  · have e := (h.ne_kc hq hq).symm
    exact (hcOther e).trans ((hcOther e).trans (h.chn q hq))
  · refine S.own_keep (h.row q hq) fun g hg0 => ?_
    have hg : (Value.slice (Z q).ua ((Z q).un.map G.kb).length (Z q).uc).ownBlock = some g := hg0
    cases ha : (Z q).ua with
    | none => rw [ha] at hg; cases hg
    | some a =>
      rw [ha] at hg
      obtain rfl : a.block = g := Option.some.inj hg
      obtain ⟨_, cs, hcs⟩ := h.rowb hq ha
      have e : a.block ≠ G.kb q := fun e => by
        have := h.kn q hq
        rw [← e, hcs] at this
        simp at this
      exact (hcOther e).trans (hcOther e)
/-- the list of one grown, and told of -/
theorem take_row (h : Fk B W G Z m n) {p q : Nat} (hp : p < n) {ao : Option Addr} {n' c' : Nat} {U : World} (hput : KR.Put W U B ((Z p).un.map G.kb) [G.kb q] (Z p).ua (Z p).uc ao n' c') :
    Fk B (U.setCell ⟨G.kb p, 7, none⟩ (.slice ao n' c')) G (C.upd Z p ((Z p).with ((Z p).un ++ [q]) ao c')) m n ∧ Fr B W (U.setCell ⟨G.kb p, 7, none⟩ (.slice ao n' c')) := by
  have lt : ∀ {b : Nat} {o : Obj}, W.heap[b]? = some o → b < W.heap.size := fun e => (Array.getElem?_eq_some_iff.1 e).1
  have ho : KR.Own U B (((Z p).un ++ [q]).map G.kb) ao c' := by
    have := hput.own
    rw [List.map_append]
    exact this
  have hn' : n' = ((Z p).un ++ [q]).length := by have := hput.len; simpa using this
  -- the block that may have turned
  have hblk : ∀ k, k < W.heap.size → (∀ a, (Z p).ua = some a → a.block ≠ k) → U.heap[k]? = W.heap[k]? := fun k hk hne => hput.grown.block k hk (fun e => by
    cases ha : (Z p).ua with
    | none => rw [ha] at e; cases e
    | some a => rw [ha] at e; exact hne a ha (Option.some.inj e).symm)
  have typk : ∀ {b : Nat} {c : Array Value} {t : TypeId} {f : Nat × Nat}, W.heap[b]? = some (.cells c t f) → t ≠ 78 → U.heap[b]? = some (.cells c t f) := fun hb ht => (hblk _ (lt hb) (fun a ha e => by
    obtain ⟨_, cs, hcs⟩ := h.rowb hp ha
    rw [e, hb] at hcs
    simp at hcs
    exact ht hcs.2.1)).trans hb
  have chnk : ∀ {b c : Nat} {u : Array Value} {l : Bool} {s r : Nat} {x : Bool}, W.heap[b]? = some (.chan c u l s r x) → U.heap[b]? = some (.chan c u l s r x) := fun hb => (hblk _ (lt hb) (fun a ha e => by
    obtain ⟨_, cs, hcs⟩ := h.rowb hp ha
    rw [e, hb] at hcs
    simp at hcs)).trans hb
  have hkp := typk (h.kn p hp) (by decide)
  -- where the row lies now
  have hnew : ∀ a, ao = some a → (∃ a', (Z p).ua = some a' ∧ a'.block = a.block) ∨ W.heap.size ≤ a.block := fun a ha => by
    rcases ho.2 with ⟨hv, _⟩ | ⟨g, cap, cur, hv, _⟩
    · rw [ha] at hv; simp at hv
    · rw [ha] at hv
      simp only [Value.slice.injEq, Option.some.injEq] at hv
      obtain ⟨rfl, _⟩ := hv
      rcases hput.new g 0 ha with ⟨o', e⟩ | e
      · exact .inl ⟨_, e, rfl⟩
      · exact .inr e
  have hroe : ∀ a, ao = some a → ∃ cs, U.heap[a.block]? = some (.cells cs 78 (0, 0)) := fun a ha => by
    rcases ho.2 with ⟨hv, _⟩ | ⟨g, cap, cur, hv, _, hh, _⟩
    · rw [ha] at hv; simp at hv
    · rw [ha] at hv
      simp only [Value.slice.injEq, Option.some.injEq] at hv
      obtain ⟨rfl, _⟩ := hv
      exact ⟨cur, hh⟩
  obtain ⟨r, hr⟩ : ∃ r, (∀ a, (Z p).ua = some a → r = a.block) ∧ ((Z p).ua = none → r = W.heap.size) := by
    cases ha : (Z p).ua with
    | none => exact ⟨W.heap.size, by simp, fun _ => rfl⟩
    | some a => exact ⟨a.block, by simp, by simp⟩
  have hrt : ∀ {b : Nat}, b < W.heap.size → b ≠ r → ∀ a, (Z p).ua = some a → a.block ≠ b := fun _ hne a ha e => hne (by rw [hr.1 a ha, e])
  have hrk : ∀ {b : Nat} {o : Obj}, W.heap[b]? = some o → (∀ cs, o ≠ .cells cs 78 (0, 0)) → b ≠ r := fun hb hno e => by
    cases ha : (Z p).ua with
    | none => have := hr.2 ha; have := lt hb; omega
    | some a =>
      obtain ⟨_, cs, hcs⟩ := h.rowb hp ha
      rw [← hr.1 a ha, ← e, hb] at hcs
      exact hno cs (Option.some.inj hcs)
  refine ⟨?_, ?_⟩
  · refine h.upd hp _ r ?_ ?_ (fun b hb h1 _ h3 => (hcOther h1).trans (hblk b hb (hrt hb h3))) ?_ (fun j hj => hrk (h.tok j hj) (by simp)) (fun j hj => ⟨hrk (h.kn j hj) (by simp), hrk (h.chn j hj) (by simp)⟩) (fun j hj hne a ha => ⟨fun e => ?_, fun b hb e => ?_⟩)
    · have := hcSame hkp 7 (.slice ao n' c')
      rw [hn'] at this ⊢
      exact this
    · exact (hcOther (h.ne_kc hp hp).symm).trans (chnk (h.chn p hp))
    · refine S.own_keep ho fun g hg => ?_
      refine hcOther (fun e => ?_)
      cases ha : ao with
      | none => rw [ha] at hg; cases hg
      | some a =>
        rw [ha] at hg
        obtain rfl : a.block = g := Option.some.inj hg
        obtain ⟨cs, hcs⟩ := hroe a ha
        rw [e, hkp] at hcs
        simp at hcs
    · cases hp' : (Z p).ua with
      | none =>
        obtain ⟨_, cs, hcs⟩ := h.rowb hj ha
        have := hr.2 hp'
        have := lt hcs
        omega
      | some a' => exact hne (h.rinj j p hj hp a a' ha hp' (by rw [e, hr.1 a' hp']))
    · rcases hnew b hb with ⟨a', ha', e'⟩ | e'
      · exact hne (h.rinj j p hj hp a a' ha ha' (by rw [e, e']))
      · obtain ⟨_, cs, hcs⟩ := h.rowb hj ha
        have := lt hcs
        omega
  · have f1 : Fr B W U := ⟨hput.grown.os, hput.grown.tape, hput.grown.output, hput.grown.size, fun b hb hs => hput.below.block b hb, fun b c t f hb _ h2 => typk hb h2, fun b c u l s r q hb _ => chnk hb⟩
    exact f1.trans (Fr.cells (G.kb p) hkp (h.low p hp).1 7 _)
theorem one_at (W : World) (b : Nat) : KR.At (W.alloc (.cells #[.pointer (some ⟨b, 0, none⟩)] 78)) [b] (some ⟨W.heap.size, 0, none⟩) 1 := by
  refine ⟨fun _ => ⟨_, 0, rfl, fun j v hv => ?_⟩, Nat.le_refl _, (fun e => by cases e), by simp⟩
  match j, hv with
  | 0, hv =>
    have e : Value.pointer (some ⟨b, 0, none⟩) = v := by simpa [S.Rec.flat, KR] using hv
    rw [← e]
    exact S.cell_one (heap_alloc_new W _)
  | j + 1, hv => simp [S.Rec.flat, KR] at hv
theorem wpList_putK {ops : Array Oper} {rest : List Oper} {o : Oper} {a : Act} {w : World} {Q : Exit → Act → World → Prop} (hgd : o.guard = none) (s x : Operand) (ho : o.op = .call { callee := .builtin .append, args := #[s, x], argTypes := #[96, 96] }) (d : Option Tmp) (hd : o.dst = d)
    (B : Nat) (l m : List Nat) (n1 n2 : Nat) (e1 : n1 = l.length) (e2 : n2 = m.length) (ao bo : Option Addr) (c c2 : Nat) (hs : a.eval s = .slice ao n1 c) (hx : a.eval x = .slice bo n2 c2) (hown : KR.Own w B l ao c) (hm : KR.At w m bo c2) (hl : (l.length + m.length) * 8 ≤ 140737488355328) (hB : B ≤ w.heap.size)
    (h : ∀ ao' n' c' w', Hid (KR.Put w w' B l m ao c ao' n' c') → wpList Try.prog ops Q rest (a.put d (.slice ao' n' c')) w') : wpList Try.prog ops Q (o :: rest) a w :=
  KR.wpList_put hgd s x ho d hd B l m n1 n2 e1 e2 ao bo c c2 hs hx hown hm hl hB h
theorem put_typ (h : Fk B W G Z m n) {p q : Nat} (hp : p < n) {ao : Option Addr} {n' c' : Nat} {U : World} (hput : KR.Put W U B ((Z p).un.map G.kb) [G.kb q] (Z p).ua (Z p).uc ao n' c') {b : Nat} {c : Array Value} {t : TypeId} {f : Nat × Nat} (hb : W.heap[b]? = some (.cells c t f)) (ht : t ≠ 78) : U.heap[b]? = some (.cells c t f) :=
  (hput.grown.block b (Array.getElem?_eq_some_iff.1 hb).1 (fun e => by
    cases ha : (Z p).ua with
    | none => rw [ha] at e; cases e
    | some a =>
      rw [ha] at e
      obtain ⟨_, cs, hcs⟩ := h.rowb hp ha
      rw [← (Option.some.inj e : b = a.block), hb] at hcs
      simp at hcs
      exact ht hcs.2.1)).trans hb
set_option maxRecDepth 100000 in
theorem kTakeLive (h : Fk B W G Z m n) (hB : B ≤ W.heap.size) {p q : Nat} (hp : p < n) (hq : q < n) (hpq : p ≠ q) (hlp : (Z p).why = 0) (hlen : (Z p).un.length < 6000000000000) :
    Calls Try.prog 52 #[.pointer (some ⟨G.kb p, 0, none⟩), .pointer (some ⟨G.kb q, 0, none⟩)] W fun e w' => e = .returned (.tuple #[]) ∧
      ∃ ao c', Fk B w' G (C.upd (C.upd Z q ((Z q).laid p (Z p).un.length)) p ((Z p).with ((Z p).un ++ [q]) ao c')) m n ∧ Fr B W w' := by
  have lt : ∀ {b : Nat} {o : Obj}, W.heap[b]? = some o → b < W.heap.size := fun e => (Array.getElem?_eq_some_iff.1 e).1
  obtain ⟨k, hk⟩ : ∃ k, k = (Z p).un.length := ⟨_, rfl⟩
  have hpw : W.cell? ⟨G.kb p, 3 + 2, none⟩ = some (.int .i64 0) := by rw [← hlp]; exact h.cell hp rfl
  have hpu : W.cell? ⟨G.kb p, 7, none⟩ = some (.slice (Z p).ua k (Z p).uc) := by rw [hk]; exact h.cell hp rfl
  have hq6 : W.cell? ⟨G.kb q, 6, none⟩ = some (abP G (Z q).abv) := h.cell hq rfl
  have hq8 : W.cell? ⟨G.kb q, 8, none⟩ = some (.int .i64 (Z q).pl) := h.cell hq rfl
  have hkk : G.kb p ≠ G.kb q := fun e => hpq (h.kinj p q hp hq e)
  have hfq := frz0 (h.kn q hq)
  have hfp := frz0 (h.kn p hp)
  have hf1 := take_low h (p := p) hq k
  have hr1 : Fr B W ((W.setCell ⟨G.kb q, 6, none⟩ (.pointer (some ⟨G.kb p, 0, none⟩))).setCell ⟨G.kb q, 8, none⟩ (.int .i64 k)) := (Fr.cells _ (h.kn q hq) (h.low q hq).1 6 _).trans (Fr.cells _ (hcSame (h.kn q hq) 6 _) (h.low q hq).1 8 _)
  have hs1 : ((W.setCell ⟨G.kb q, 6, none⟩ (.pointer (some ⟨G.kb p, 0, none⟩))).setCell ⟨G.kb q, 8, none⟩ (.int .i64 k)).heap.size = W.heap.size := by simp [World.setCell]
  rw [← hk] at hlen ⊢
  have HK := hide hk
  clear hk
  have HE := hide h
  clear h lt
  obtain ⟨V, hV⟩ : ∃ V, V = ((W.setCell ⟨G.kb q, 6, none⟩ (.pointer (some ⟨G.kb p, 0, none⟩))).setCell ⟨G.kb q, 8, none⟩ (.int .i64 k)).alloc (.cells #[.pointer (some ⟨G.kb q, 0, none⟩)] 78) := ⟨_, rfl⟩
  have hA := one_at ((W.setCell ⟨G.kb q, 6, none⟩ (.pointer (some ⟨G.kb p, 0, none⟩))).setCell ⟨G.kb q, 8, none⟩ (.int .i64 k)) (G.kb q)
  have hb2 : Below ((W.setCell ⟨G.kb q, 6, none⟩ (.pointer (some ⟨G.kb p, 0, none⟩))).setCell ⟨G.kb q, 8, none⟩ (.int .i64 k)).heap.size ((W.setCell ⟨G.kb q, 6, none⟩ (.pointer (some ⟨G.kb p, 0, none⟩))).setCell ⟨G.kb q, 8, none⟩ (.int .i64 k)) V := by rw [hV]; exact (Below.refl _ _).alloc (Nat.le_refl _) _
  have hf2 := hf1.below hb2
  have hr2 := hr1.trans (Fr.of hb2)
  rw [← hV, hs1] at hA
  have hBV : B ≤ V.heap.size := by rw [hV, World.size_alloc, hs1]; omega
  have hown := hf2.row p hp
  have hkp := hf2.kn p hp
  rw [upd_ne _ _ _ hpq] at hown hkp
  have HV := hide hV
  have HA := hide hA
  have HF := hide hf2
  have HR := hide hr2
  have HO := hide hown
  have HL := hide (show k = ((Z p).un.map G.kb).length by rw [unhide HK, List.length_map])
  have HZ := hide (show (((Z p).un.map G.kb).length + [G.kb q].length) * 8 ≤ 140737488355328 by rw [List.length_map, ← unhide HK]; simp; omega)
  have HBV := hide hBV
  have HKP := hide hkp
  have HLE := hide hlen
  clear hA hf1 hr1 hs1 hb2 hf2 hr2 hown hV hBV hkp hlen hB
  have HT := hide (fun (U : World) (ao : Option Addr) (n' c' : Nat) (hput : KR.Put V U B ((Z p).un.map G.kb) [G.kb q] (Z p).ua (Z p).uc ao n' c') =>
    have e : C.upd Z q ((Z q).laid p k) p = Z p := upd_ne _ _ _ hpq
    have hput' : KR.Put V U B ((C.upd Z q ((Z q).laid p k) p).un.map G.kb) [G.kb q] (C.upd Z q ((Z q).laid p k) p).ua (C.upd Z q ((Z q).laid p k) p).uc ao n' c' := by rw [e]; exact hput
    have h1 := put_typ (unhide HF) hp hput' (unhide HKP) (by decide)
    have h2 := take_row (unhide HF) hp hput'
    And.intro h1 (show Fk B (U.setCell ⟨G.kb p, 7, none⟩ (.slice ao n' c')) G (C.upd (C.upd Z q ((Z q).laid p k)) p ((Z p).with ((Z p).un ++ [q]) ao c')) m n ∧ Fr B V (U.setCell ⟨G.kb p, 7, none⟩ (.slice ao n' c')) by rw [e] at h2; exact h2))
  go_enter Try.func52, Try.ntmps52
  go_wp2_with (at_builtin; rw [← unhide HV]; (with_reducible refine wpList_putK (by rfl) (.tmp 31) (.tmp 33) (by rfl) (some 34) (by rfl) B ((Z p).un.map G.kb) [G.kb q] k 1 (unhide HL) rfl (Z p).ua (some ⟨W.heap.size, 0, none⟩) (Z p).uc 1 (by with_unfolding_all rfl) (by with_unfolding_all rfl) (unhide HO) (unhide HA) (unhide HZ) (unhide HBV) ?_); intro x1 n1 c1 W1 HP1; simp only [Act.put, List.setIfInBounds_toArray, List.set_cons_zero, List.set_cons_succ]; obtain ⟨hk1, hk2⟩ := unhide HT W1 x1 n1 c1 (unhide HP1); have hz1 : W1.cell? ⟨G.kb p, 7, none⟩ = some (.slice (Z p).ua k (Z p).uc) := (S.arr_cell hk1 rfl).trans (by rw [unhide HK]; rfl); have hz2 := frz0 hk1 7; have HK2 := hide hk2; clear hk1 hk2)
  go_end0
  exact ⟨rfl, x1, c1, (unhide HK2).1, (unhide HR).trans (unhide HK2).2⟩
end
end Go.Proofs.Ytajbkgcgmkkpiaa.C
