/- Tokens: below: one and all that stand under it. -/
import Derived.Test.YtajbkgcgmkkpiaaCnk
namespace Go.Proofs.Ytajbkgcgmkkpiaa.C
open Go.RowKit Go.Lib Go.MuLone Go.Conc
theorem nodup_len : ∀ (n : Nat) (L : List Nat), L.Nodup → (∀ x ∈ L, x < n) → L.length ≤ n
  | 0, [], _, _ => Nat.le_refl _
  | 0, x :: _, _, h => absurd (h x (List.mem_cons_self ..)) (by omega)
  | n + 1, L, hd, h => by
    by_cases hn : n ∈ L
    · have h1 := nodup_len n (L.erase n) (hd.erase n) fun x hx => by
        have := (List.Nodup.mem_erase_iff hd).1 hx
        have := h x this.2
        omega
      rw [List.length_erase_of_mem hn] at h1
      omega
    · have := nodup_len n L hd fun x hx => by
        have := h x hx
        have : x ≠ n := fun e => hn (e ▸ hx)
        omega
      omega
/-- what stands under what -/
structure Wu (Z : Nat → Dy) (n : Nat) : Prop where
  nd : ∀ x, x < n → (Z x).un.Nodup
  lt : ∀ x, x < n → ∀ c ∈ (Z x).un, x < c ∧ c < n
  one : ∀ x y c, x < n → y < n → c ∈ (Z x).un → c ∈ (Z y).un → x = y
/-- as far as they are gathered -/
structure Bf (Z : Nat → Dy) (n top : Nat) (L : List Nat) (i : Nat) : Prop where
  nd : L.Nodup
  lt : ∀ x ∈ L, x < n
  ge : ∀ x ∈ L, top ≤ x
  hd : L[0]? = some top
  par : ∀ x ∈ L, x = top ∨ ∃ y ∈ L.take i, x ∈ (Z y).un
  cl : ∀ a x, a < i → L[a]? = some x → ∀ c ∈ (Z x).un, c ∈ L
theorem Bf.start {Z : Nat → Dy} {n top : Nat} (h : top < n) : Bf Z n top [top] 0 :=
  ⟨by simp, fun x hx => by rw [List.mem_singleton.1 hx]; exact h, fun x hx => by rw [List.mem_singleton.1 hx]; exact Nat.le_refl _, rfl, fun x hx => .inl (List.mem_singleton.1 hx), fun a x ha => absurd ha (by omega)⟩
theorem Bf.next {Z : Nat → Dy} {n top : Nat} {L : List Nat} {i x : Nat} (h : Bf Z n top L i) (hw : Wu Z n) (hx : L[i]? = some x) : Bf Z n top (L ++ (Z x).un) (i + 1) := by
  have hi := (List.getElem?_eq_some_iff.1 hx).1
  have hxL : x ∈ L := List.mem_of_getElem? hx
  have hxn := h.lt x hxL
  have hxt : x ∉ L.take i := fun hm => by
    obtain ⟨a, ha⟩ := List.getElem?_of_mem hm
    have hai : a < i := by have := (List.getElem?_eq_some_iff.1 ha).1; rw [List.length_take] at this; omega
    rw [List.getElem?_take, if_pos hai] at ha
    have := (List.nodup_iff_pairwise_ne.1 h.nd)
    have e := List.pairwise_iff_getElem.1 this a i (by omega) hi hai
    rw [List.getElem?_eq_getElem (by omega)] at ha hx
    exact e ((Option.some.inj ha).trans (Option.some.inj hx).symm)
  have htk : ∀ y ∈ L.take (i + 1), y ∈ L.take i ∨ y = x := fun y hy => by
    rw [List.take_add_one, hx] at hy
    simpa using hy
  have hsub : ∀ y, y ∈ L.take i ∨ y = x → y ∈ (L ++ (Z x).un).take (i + 1) := fun y hy => by
    rw [List.take_append_of_le_length (by omega), List.take_add_one, hx]
    simpa using hy
  refine ⟨List.nodup_append.2 ⟨h.nd, hw.nd x hxn, fun a ha c hc e => ?_⟩, fun y hy => ?_, fun y hy => ?_, ?_, fun y hy => ?_, fun a y ha hy c hc => ?_⟩
  · subst e
    rcases h.par a ha with rfl | ⟨y, hy, hya⟩
    · have := (hw.lt x hxn a hc).1
      have := h.ge x hxL
      omega
    · have e := hw.one y x a (h.lt y (List.mem_of_mem_take hy)) hxn hya hc
      exact hxt (e ▸ hy)
  · rcases List.mem_append.1 hy with hy | hy
    · exact h.lt y hy
    · exact (hw.lt x hxn y hy).2
  · rcases List.mem_append.1 hy with hy | hy
    · exact h.ge y hy
    · have := (hw.lt x hxn y hy).1
      have := h.ge x hxL
      omega
  · rw [List.getElem?_append_left (by omega)]; exact h.hd
  · rcases List.mem_append.1 hy with hy | hy
    · rcases h.par y hy with e | ⟨z, hz, hzy⟩
      · exact .inl e
      · exact .inr ⟨z, hsub z (.inl hz), hzy⟩
    · exact .inr ⟨x, hsub x (.inr rfl), hy⟩
  · by_cases e : a = i
    · subst e
      rw [List.getElem?_append_left hi, hx] at hy
      obtain rfl := Option.some.inj hy
      exact List.mem_append.2 (.inr hc)
    · rw [List.getElem?_append_left (by omega)] at hy
      exact List.mem_append.2 (.inl (h.cl a y (by omega) hy c hc))
section
open S
/-- a list behind a slice, however long -/
structure AtK (w : World) (l : List Nat) (ao : Option Addr) (c : Nat) : Prop where
  lies : Lies w ao (KR.flat l)
  cap : l.length ≤ c
  nil : ao = none → c = 0
theorem run_putL (w : World) (ty : TypeId) (B : Nat) (l m : List Nat) (ao bo : Option Addr) (c d : Nat) (ho : KR.Own w B l ao c) (hm : AtK w m bo d) (hl : (l.length + m.length) * 8 ≤ 140737488355328) (hB : B ≤ w.heap.size) :
    ∃ ao' c' w', (Builtin.append_ #[96, 96] ty #[.slice ao l.length c, .slice bo m.length d]).run Try.prog w = .ok (.slice ao' (l ++ m).length c') w' ∧ KR.Own w' B (l ++ m) ao' c' ∧ Below B w w' := by
  obtain ⟨i, z, hi, hz, hzs, hs, hby⟩ := KR.info
  cases bo with
  | none =>
    obtain rfl := hm.nil rfl
    obtain rfl : m = [] := List.eq_nil_of_length_eq_zero (by have := hm.cap; omega)
    rw [List.append_nil]
    exact ⟨ao, c, w, run_append_owned_none (P := Try.prog) (w := w) B KR.st ty KR.et i KR.n KR.und hi _ _ _ ho, ho, Below.refl _ _⟩
  | some ad =>
    obtain ⟨v', w', hr, h2, h3, _⟩ := W.run_append_own' (P := Try.prog) w B KR.st ty KR.et i z KR.n KR.bts KR.und hi hz hs hby hzs KR.hn (.slice ao l.length c) l.length (KR.flat l) ho ad m.length d (KR.flat m) (KR.flat_len m) (fun j u hu => by
      obtain ⟨g, o, he, hr⟩ := hm.lies (by have := (List.getElem?_eq_some_iff.1 hu).1; omega)
      cases he
      rw [Addr.add_mid]
      exact hr j u hu) (KR.flat_one m) (by unfold maxLen; omega) hl hB
    obtain ⟨ao', c', rfl⟩ := W.owns_shape h2
    rw [← List.length_append, ← KR.flat_app] at h2
    rw [← List.length_append] at hr
    exact ⟨ao', c', w', hr, h2, KR.grown_below ho h3 hB⟩
theorem wpList_putL {ops : Array Oper} {rest : List Oper} {o : Oper} {a : Act} {w : World} {Q : Exit → Act → World → Prop} (hgd : o.guard = none) (s x : Operand) (ho : o.op = .call { callee := .builtin .append, args := #[s, x], argTypes := #[96, 96] }) (d : Option Tmp) (hd : o.dst = d)
    (B : Nat) (l m : List Nat) (n1 n2 : Nat) (e1 : n1 = l.length) (e2 : n2 = m.length) (ao bo : Option Addr) (c c2 : Nat) (hs : a.eval s = .slice ao n1 c) (hx : a.eval x = .slice bo n2 c2) (hown : KR.Own w B l ao c) (hm : AtK w m bo c2) (hl : (l.length + m.length) * 8 ≤ 140737488355328) (hB : B ≤ w.heap.size)
    (h : ∀ ao' n' c' w', Hid (n' = (l ++ m).length ∧ KR.Own w' B (l ++ m) ao' c' ∧ Below B w w') → wpList Try.prog ops Q rest (a.put d (.slice ao' n' c')) w') : wpList Try.prog ops Q (o :: rest) a w := by
  refine wpList_plain hgd fun _ hK => ?_
  subst hd e1 e2
  obtain ⟨ao', c', w', hr, h1, h2⟩ := run_putL w o.type B l m ao bo c c2 hown hm hl hB
  unfold Oper.wp execOp
  simp only [ho, resolve, invoke, builtin, Sem.run_bind, Sem.run_pure, Result.andThen_ok, List.map_toArray, List.map_cons, List.map_nil, hs, hx, hr]
  exact hK _ _ (h ao' _ c' w' ⟨rfl, h1, h2⟩)
end
section
variable {B : Nat} {W W' : World} {G : Geo} {Z : Nat → Dy} {m n : Nat}
theorem Fk.rowAt (h : Fk B W G Z m n) {x : Nat} (hx : x < n) : AtK W ((Z x).un.map G.kb) (Z x).ua (Z x).uc := by
  have h1 := S.own_lies (h.row x hx)
  exact ⟨h1.1, h1.2.1, h1.2.2.1⟩
theorem own_cell {w : World} {B c : Nat} {l : List Nat} {ao : Option Addr} (h : KR.Own w B l ao c) {i : Nat} (hi : i < l.length) : ∃ g, ao = some ⟨g, 0, none⟩ ∧ w.cell? ⟨g, i, none⟩ = some (.pointer (some ⟨l[i], 0, none⟩)) ∧ l.length ≤ c := by
  obtain ⟨h1, h2, h3, h4⟩ := S.own_lies h
  obtain ⟨g, o, e, hr⟩ := h1 (by rw [KR.flat_len, show KR.n = 1 from rfl]; omega)
  obtain ⟨g', e'⟩ := S.own_addr h _ e
  cases e'
  refine ⟨g, e, ?_, h2⟩
  have := hr i (.pointer (some ⟨l[i], 0, none⟩)) (by
    have := KR.flat_get l i hi 0 (by decide)
    rw [show KR.n = 1 from rfl, Nat.mul_one, Nat.add_zero] at this
    rw [this]
    rfl)
  simpa using this
set_option maxRecDepth 100000 in
set_option maxHeartbeats 2000000 in
theorem kBelow (h : Fk B W G Z m n) (hw : Wu Z n) (hn : n < 6000000000000) {i : Nat} (hi : i < n) :
    Calls Try.prog 54 #[.pointer (some ⟨G.kb i, 0, none⟩)] W fun e w' => ∃ L ao c', e = .returned (.slice ao L.length c') ∧ Bf Z n i L L.length ∧ KR.Own w' W.heap.size (L.map G.kb) ao c' ∧ Below W.heap.size W w' := by
  have HF := hide h
  have HW := hide hw
  have HN := hide hn
  have HI := hide hi
  have hA := (one_at W (G.kb i))
  have HO0 : Hid (KR.Own (W.alloc (.cells #[.pointer (some ⟨G.kb i, 0, none⟩)] 78)) W.heap.size ([i].map G.kb) (some ⟨W.heap.size, 0, none⟩) 1) := by
    refine ⟨rfl, .inr ⟨W.heap.size, 1, #[.pointer (some ⟨G.kb i, 0, none⟩)], rfl, Nat.le_refl _, heap_alloc_new W _, Nat.le_refl _, by decide, rfl, rfl⟩⟩
  clear h hw hn hi hA
  go_enter Try.func54, Try.ntmps54
  go_wp2
  go_loopw [3, 4] (fun s3 s4 wr => ∃ (k n1 c1 : Nat) (x1 : Option Addr) (L : List Nat), k ≤ n1 ∧ s3 = .slice x1 n1 c1 ∧ s4 = .int .i64 (k : Int) ∧ Hid (n1 = L.length ∧ n1 ≤ n ∧ KR.Own wr W.heap.size (L.map G.kb) x1 c1 ∧ Below W.heap.size W wr ∧ Bf Z n i L k)) (fun _ s4 _ => n - (intOf s4).toNat)
  case atStart => exact ⟨0, 1, 1, some ⟨W.heap.size, 0, none⟩, [i], by decide, rfl, rfl, rfl, by have := unhide HI; omega, unhide HO0, (Below.refl _ _).alloc (Nat.le_refl _) _, Bf.start (unhide HI)⟩
  case round =>
    obtain ⟨k, n1, c1, x1, L, hk, rfl, rfl, HR⟩ := hrel
    by_cases hlt : k < n1
    · have hki : (k : Int) < (n1 : Int) := by omega
      obtain ⟨e1, hnn, ho, hb, hbf⟩ := unhide HR
      obtain ⟨x, hx⟩ : ∃ x, L[k]? = some x := ⟨_, List.getElem?_eq_getElem (by omega)⟩
      have hxn : x < n := hbf.lt x (List.mem_of_getElem? hx)
      obtain ⟨g, rfl, hc, hcap⟩ := own_cell ho (i := k) (by rw [List.length_map]; omega)
      have hc2 : wr.cell? ⟨g, k, none⟩ = some (.pointer (some ⟨G.kb x, 0, none⟩)) := by
        rw [hc, List.getElem_map]
        rw [List.getElem?_eq_getElem (by omega)] at hx
        rw [Option.some.inj hx]
      have hf := (unhide HF).below hb
      obtain ⟨q, hq⟩ : ∃ q, q = (Z x).un.length := ⟨_, rfl⟩
      have hc7 : wr.cell? ⟨G.kb x, 7, none⟩ = some (.slice (Z x).ua q (Z x).uc) := by rw [hq]; exact hf.cell hxn rfl
      have hix := fun w => KR.ix (P := Try.prog) g 0 n1 c1 k hlt w
      have hnx := hbf.next (unhide HW) hx
      have hln := nodup_len n _ hnx.nd hnx.lt
      have HX := hide (show (k + 1 ≤ (L ++ (Z x).un).length ∧ (L ++ (Z x).un).length ≤ n ∧ Bf Z n i (L ++ (Z x).un) (k + 1)) from ⟨by rw [List.length_append]; omega, hln, hnx⟩)
      have HA := hide (hf.rowAt hxn)
      have HO := hide ho
      have HQ := hide (show q = ((Z x).un.map G.kb).length by rw [hq, List.length_map])
      have HE1 := hide (show n1 = (L.map G.kb).length by rw [e1, List.length_map])
      have HL := hide (show ((L.map G.kb).length + ((Z x).un.map G.kb).length) * 8 ≤ 140737488355328 by
        have := unhide HN
        rw [List.length_append] at hln
        rw [List.length_map, List.length_map]
        omega)
      have HB := hide hb
      have HSZ := hide hb.size
      have hwk : IntKind.i64.wrap ((k : Int) + 1) = ((k + 1 : Nat) : Int) := by have := unhide HN; rw [IntKind.wrap_i64]; omega
      have HLT := hide hlt
      have HNN := hide hnn
      clear HR ho hb hbf hx hxn hc hcap hf hq hnx hln e1 hlt hnn hk
      go_wp2_with (at_builtin; (with_reducible refine wpList_putL (by rfl) (.tmp 13) (.tmp 20) (by rfl) (some 21) (by rfl) W.heap.size (L.map G.kb) ((Z x).un.map G.kb) n1 q (unhide HE1) (unhide HQ) (some ⟨g, 0, none⟩) (Z x).ua c1 (Z x).uc (by with_unfolding_all rfl) (by with_unfolding_all rfl) (unhide HO) (unhide HA) (unhide HL) (unhide HSZ) ?_); intro x4 n4 c4 W4 HP4; simp only [Act.put, List.setIfInBounds_toArray, List.set_cons_zero, List.set_cons_succ])
      go_roundw
      case rel =>
        obtain ⟨p1, p2, p3⟩ := unhide HP4
        obtain ⟨q1, q2, q3⟩ := unhide HX
        refine ⟨k + 1, n4, c4, x4, L ++ (Z x).un, ?_, rfl, by go_num, ?_⟩
        · rw [p1, List.length_append, List.length_map, List.length_map, ← List.length_append]; exact q1
        · refine hide ⟨?_, ?_, ?_, (unhide HB).trans (p3.mono (Nat.le_refl _)), q3⟩
          · rw [p1, List.length_append, List.length_map, List.length_map, List.length_append]
          · rw [p1, List.length_append, List.length_map, List.length_map, ← List.length_append]; exact q2
          · rw [List.map_append]; exact p2
      case measure =>
        have := unhide HLT
        have := unhide HNN
        simp [intOf]; omega
    · obtain ⟨e1, hnn, ho, hb, hbf⟩ := unhide HR
      obtain rfl : k = n1 := by omega
      have HP := hide (show ∃ L ao c', Value.slice x1 k c1 = .slice ao L.length c' ∧ Bf Z n i L L.length ∧ KR.Own wr W.heap.size (L.map G.kb) ao c' ∧ Below W.heap.size W wr from ⟨L, x1, c1, by rw [e1], by rw [← e1]; exact hbf, ho, hb⟩)
      clear HR ho hb hbf e1 hnn hk
      go_wp2
      go_ret
      obtain ⟨L, ao, c', h1, h2⟩ := unhide HP
      exact ⟨L, ao, c', by rw [h1]; rfl, h2⟩
end
end Go.Proofs.Ytajbkgcgmkkpiaa.C
