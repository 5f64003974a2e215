/- Sketches: Peel. -/
import Derived.Test.YtopabadnbelegaaQSkj
namespace Go.Proofs.Ytopabadnbelegaa.K
open Go.RowKit Go.Lib
open Go.Proofs.Ytopabadnbelegaa.S (Rec)
abbrev BV := BitVec 64
theorem firI_cases (l : List Ce) : firI l = -1 ∨ ∃ i, ∃ hi : i < l.length, firI l = (i : Int) ∧ pureC l.length i l[i] = true := by
  unfold firI
  cases hq : (List.range l.length).find? (fun i => pureC l.length i (l.getD i .zer)) with
  | none => exact .inl rfl
  | some i =>
    have h1 := List.mem_range.1 (List.mem_of_find?_eq_some hq)
    have h2 := List.find?_some hq
    rw [List.getD_eq_getElem?_getD, List.getElem?_eq_getElem h1, Option.getD_some] at h2
    exact .inr ⟨i, h1, rfl, h2⟩
/-- what is peeled -/
def peelN : Nat → List BV → List BV → List Ce → List BV × List BV × List Ce
  | 0, M, L, l => (M, L, l)
  | f + 1, M, L, l => if firI l < 0 then (M, L, l) else
      if 0 < (l.getD (firI l).toNat .zer).c.toInt then peelN f (M ++ [(l.getD (firI l).toNat .zer).x]) L (layB l (l.getD (firI l).toNat .zer).x (-(l.getD (firI l).toNat .zer).c))
      else peelN f M (L ++ [(l.getD (firI l).toNat .zer).x]) (layB l (l.getD (firI l).toNat .zer).x (-(l.getD (firI l).toNat .zer).c))
theorem peelN_stop {f : Nat} {M L : List BV} {l : List Ce} (h : firI l = -1) : peelN f M L l = (M, L, l) := by
  cases f with
  | zero => rfl
  | succ f => rw [peelN, if_pos (by rw [h]; decide)]
theorem peelN_more {f i : Nat} {M L : List BV} {l : List Ce} (hi : i < l.length) (h : firI l = (i : Int)) (hc : 0 < l[i].c.toInt) : peelN (f + 1) M L l = peelN f (M ++ [l[i].x]) L (layB l l[i].x (-l[i].c)) := by
  have e : l.getD (firI l).toNat .zer = l[i] := by rw [h, Int.toNat_natCast, List.getD_eq_getElem?_getD, List.getElem?_eq_getElem hi, Option.getD_some]
  rw [peelN, if_neg (by rw [h]; omega), e, if_pos hc]
theorem peelN_less {f i : Nat} {M L : List BV} {l : List Ce} (hi : i < l.length) (h : firI l = (i : Int)) (hc : ¬ 0 < l[i].c.toInt) : peelN (f + 1) M L l = peelN f M (L ++ [l[i].x]) (layB l l[i].x (-l[i].c)) := by
  have e : l.getD (firI l).toNat .zer = l[i] := by rw [h, Int.toNat_natCast, List.getD_eq_getElem?_getD, List.getElem?_eq_getElem hi, Option.getD_some]
  rw [peelN, if_neg (by rw [h]; omega), e, if_neg hc]
theorem wpList_putW {ops : Array Oper} {rest : List Oper} {o : Oper} {a : Act} {w : World} {Q : Exit → Act → World → Prop} (hgd : o.guard = none) (s x : Operand) (ho : o.op = .call { callee := .builtin .append, args := #[s, x], argTypes := #[28, 28] }) (d : Option Tmp) (hd : o.dst = d)
    (B : Nat) (l m : List BV) (n1 n2 : Nat) (e1 : n1 = l.length) (e2 : n2 = m.length) (ao bo : Option Addr) (c c2 : Nat) (hs : a.eval s = .slice ao n1 c) (hx : a.eval x = .slice bo n2 c2) (hown : RW.Own w B l ao c) (hm : RW.At w m bo c2) (hl : (l.length + m.length) * 8 ≤ 140737488355328) (hB : B ≤ w.heap.size)
    (h : ∀ ao' n' c' w', Hid (RW.Put w w' B l m ao c ao' n' c') → wpList Try.prog ops Q rest (a.put d (.slice ao' n' c')) w') : wpList Try.prog ops Q (o :: rest) a w :=
  RW.wpList_put hgd s x ho d hd B l m n1 n2 e1 e2 ao bo c c2 hs hx hown hm hl hB h
theorem oneW (w : World) (x : BV) : RW.At (w.alloc (.cells #[.int .u64 x.toNat] 24)) [x] (some ⟨w.heap.size, 0, none⟩) 1 := by
  refine ⟨fun _ => ⟨w.heap.size, 0, rfl, fun j v hv => ?_⟩, Nat.le_refl _, (fun e => by cases e), by show 1 ≤ _; decide⟩
  have h := heap_alloc_new w (.cells #[.int .u64 x.toNat] 24)
  have hv' : (#[Value.int .u64 x.toNat] : Array Value)[j]? = some v := by rw [← Array.getElem?_toList]; exact hv
  refine S.arr_cell h ?_
  rw [Nat.zero_add]
  exact hv'
/-- where a peel stands -/
structure Pe (u w : World) (B a g c : Nat) (l : List Ce) (M L : List BV) (xo yo : Option Addr) (cx cy : Nat) : Prop where
  sk : Sk w a g c l
  m : RW.Own w B M xo cx
  l : RW.Own w B L yo cy
  n1 : ∀ ad : Addr, xo = some ad → ad.block ≠ a ∧ ad.block ≠ g
  n2 : ∀ ad : Addr, yo = some ad → ad.block ≠ a ∧ ad.block ≠ g
  n3 : ∀ ad bd : Addr, xo = some ad → yo = some bd → ad.block ≠ bd.block
  bel : Below B u w
  ha : B ≤ a
  hg : B ≤ g
  hB : B ≤ w.heap.size
section
variable {u w w' : World} {B a g c : Nat} {l l' : List Ce} {M L : List BV} {xo yo : Option Addr} {cx cy : Nat}
theorem Pe.swap (h : Pe u w B a g c l M L xo yo cx cy) : Pe u w B a g c l L M yo xo cy cx := ⟨h.sk, h.l, h.m, h.n2, h.n1, fun ad bd e1 e2 => (h.n3 bd ad e2 e1).symm, h.bel, h.ha, h.hg, h.hB⟩
theorem own_ad {w : World} {B : Nat} {l : List BV} {ao : Option Addr} {c g : Nat} (h : RW.Own w B l ao c) (hg : (Value.slice ao l.length c).ownBlock = some g) : ao.map (·.block) = some g := by
  cases ao with
  | none => cases hg
  | some ad => exact hg
theorem Pe.below (h : Pe u w B a g c l M L xo yo cx cy) (hb : Below w.heap.size w w') : Pe u w' B a g c l M L xo yo cx cy :=
  ⟨h.sk.below hb, h.m.below hb, h.l.below hb, h.n1, h.n2, h.n3, h.bel.trans (hb.mono h.hB), h.ha, h.hg, Nat.le_trans h.hB hb.size⟩
theorem Pe.lay (h : Pe u w B a g c l M L xo yo cx cy) (hb : Alt w w' g) (hs : Sk w' a g c l') : Pe u w' B a g c l' M L xo yo cx cy := by
  refine ⟨hs, S.own_keep h.m fun k hk => ?_, S.own_keep h.l fun k hk => ?_, h.n1, h.n2, h.n3, h.bel.trans (hb.below h.hg h.hB), h.ha, h.hg, Nat.le_trans h.hB hb.size⟩
  · have e := own_ad h.m hk
    obtain ⟨ad, h1, h2⟩ := Option.map_eq_some_iff.1 e
    exact hb.block k (h.m.lt k hk).2 (by rw [← h2]; exact (h.n1 ad h1).2)
  · have e := own_ad h.l hk
    obtain ⟨ad, h1, h2⟩ := Option.map_eq_some_iff.1 e
    exact hb.block k (h.l.lt k hk).2 (by rw [← h2]; exact (h.n2 ad h1).2)
/-- behind a change of the first list alone -/
theorem Pe.chg (h : Pe u w B a g c l M L xo yo cx cy) {M' : List BV} {zo : Option Addr} {cz : Nat} (hb : ∀ k, k < w.heap.size → xo.map (·.block) ≠ some k → w'.heap[k]? = w.heap[k]?) (hB : Below B w w') (ho : RW.Own w' B M' zo cz) (hz : ∀ ad : Addr, zo = some ad → (∃ bd : Addr, xo = some bd ∧ bd.block = ad.block) ∨ w.heap.size ≤ ad.block) (hs : w.heap.size ≤ w'.heap.size) : Pe u w' B a g c l M' L zo yo cz cy := by
  have hbl : ∀ k, k < w.heap.size → (∀ ad : Addr, xo = some ad → ad.block ≠ k) → w'.heap[k]? = w.heap[k]? := fun k hk hn => hb k hk (by
    intro e
    obtain ⟨ad, h1, h2⟩ := Option.map_eq_some_iff.1 e
    exact hn ad h1 h2)
  obtain ⟨cs, t, hr, hh⟩ := h.sk.row
  have hla := (Array.getElem?_eq_some_iff.1 h.sk.box).1
  have hlg := (Array.getElem?_eq_some_iff.1 hr).1
  refine ⟨⟨(hbl a hla fun ad e => (h.n1 ad e).1).trans h.sk.box, ⟨cs, t, (hbl g hlg fun ad e => (h.n1 ad e).2).trans hr, hh⟩, h.sk.ne, h.sk.h3, h.sk.hm, h.sk.hc⟩, ho, S.own_keep h.l fun k hk => ?_, fun ad e => ?_, h.n2, fun ad bd e1 e2 => ?_, h.bel.trans hB, h.ha, h.hg, Nat.le_trans h.hB hs⟩
  · have e := own_ad h.l hk
    obtain ⟨bd, h1, h2⟩ := Option.map_eq_some_iff.1 e
    exact hbl k (h.l.lt k hk).2 fun ad e1 => by rw [← h2]; exact h.n3 ad bd e1 h1
  · rcases hz ad e with ⟨bd, h1, h2⟩ | h1
    · rw [← h2]; exact h.n1 bd h1
    · exact ⟨by omega, by omega⟩
  · rcases hz ad e1 with ⟨xd, h1, h2⟩ | h1
    · rw [← h2]; exact h.n3 xd bd h1 e2
    · have h4 : (Value.slice yo L.length cy).ownBlock = some bd.block := by rw [e2]; rfl
      have := (h.l.lt bd.block h4).2
      omega
theorem Pe.put (h : Pe u w B a g c l M L xo yo cx cy) {m : List BV} {zo : Option Addr} {n cz : Nat} (hp : RW.Put w w' B M m xo cx zo n cz) : Pe u w' B a g c l (M ++ m) L zo yo cz cy := by
  refine h.chg (fun k hk hn => ?_) hp.below hp.own (fun ad e => ?_) hp.grown.size
  · refine hp.grown.block k hk fun e => hn ?_
    cases xo with
    | none => cases e
    | some ad => exact e.symm
  · obtain ⟨i, rfl⟩ := S.own_addr hp.own ad e
    rcases hp.new i 0 e with ⟨o', h1⟩ | h1
    · exact .inl ⟨_, h1, rfl⟩
    · exact .inr h1
theorem Pe.sort (h : Pe u w B a g c l M L xo yo cx cy) {M' : List BV} (ho : RW.Own w' B M' xo cx) (hb : AltO w w' xo) : Pe u w' B a g c l M' L xo yo cx cy :=
  h.chg hb.block ⟨hb.os, hb.tape, hb.output, hb.size, fun k hk => hb.block k (by have := h.hB; omega) fun e => by
    obtain ⟨ad, h1, h2⟩ := Option.map_eq_some_iff.1 e
    have h4 : (Value.slice xo M.length cx).ownBlock = some ad.block := by rw [h1]; rfl
    have := (h.m.lt ad.block h4).1
    omega⟩ ho (fun ad e => .inl ⟨ad, e, rfl⟩) hb.size
end
theorem b_neg16 (a : BitVec 16) : IntKind.i16.wrap (-a.toInt) = (-a).toInt := by
  rw [i16w, BitVec.toInt_neg, Int.bmod_def]
  have h1 := a.toInt_lt
  have h2 := a.le_toInt
  simp only [Nat.reducePow, Nat.reduceSub, Int.reducePow] at *
  omega
theorem keepPut {w0 w w' : World} {B : Nat} {M m : List BV} {xo zo : Option Addr} {cx n cz k : Nat} {o : Obj} (hp : RW.Put w w' B M m xo cx zo n cz) (ho : RW.Own w0 B M xo cx) (hk : w0.heap.size ≤ k) (h : w.heap[k]? = some o) : w'.heap[k]? = some o :=
  (hp.grown.block k (Array.getElem?_eq_some_iff.1 h).1 fun e => by have := (ho.lt k e.symm).2; omega).trans h
set_option maxRecDepth 100000 in
set_option maxHeartbeats 4000000 in
theorem kPeel (a g cap : Nat) (l : List Ce) (M L : List BV) (cur : List Ce) (u : World) (h : Sk u a g cap l) (hp : peelN l.length [] [] l = (M, L, cur)) (hM : SortOK M) (hL : SortOK L) :
    Calls Try.prog 11 #[.pointer (some ⟨a, 0, none⟩)] u fun e u' => ∃ xo cx yo cy, e = .returned (.tuple #[.slice xo M.length cx, .slice yo L.length cy, .bool (decide (cur = zerL cur.length))]) ∧ RW.Own u' u.heap.size (srtB M) xo cx ∧ RW.Own u' u.heap.size (srtB L) yo cy ∧ (∀ ad bd : Addr, xo = some ad → yo = some bd → ad.block ≠ bd.block) ∧ Below u.heap.size u u' := by
  have HC := hide (kCopied h)
  obtain ⟨n, hn⟩ : ∃ n, n = l.length := ⟨_, rfl⟩
  have hnm : (n : Int) ≤ 256 := by have := h.hm; omega
  have HN := hide hn
  have HP : Hid (peelN n [] [] l = (M, L, cur)) := by rw [hn]; exact hp
  have HSM := hide hM
  have HSL := hide hL
  obtain ⟨R, hR⟩ : ∃ R, R = decide (cur = zerL cur.length) := ⟨_, rfl⟩
  rw [← hR]
  have HR := hide hR
  obtain ⟨m1, hm1⟩ : ∃ m1, m1 = M.length := ⟨_, rfl⟩
  obtain ⟨m2, hm2⟩ : ∃ m2, m2 = L.length := ⟨_, rfl⟩
  rw [← hm1, ← hm2]
  have H1 := hide hm1
  have H2 := hide hm2
  obtain ⟨B, hB⟩ : ∃ B, B = u.heap.size := ⟨_, rfl⟩
  rw [← hB] at HC ⊢
  have HB := hide hB
  clear h hp hM hL hn hR hm1 hm2 hB
  go_enter Try.func11, Try.ntmps11
  go_wp2_with (first
    | (go_at_call 25; refine (unhide HC).mono ?_; rintro e W1 ⟨a2, g2, c2, rfl, hs, hb, h1, h2⟩; have HPE : Hid (Pe u W1 B a2 g2 c2 l [] [] none none 0 0) := ⟨hs, Rec.Own.none _ _, Rec.Own.none _ _, (fun ad e => by cases e), (fun ad e => by cases e), (fun ad bd e => by cases e), hb, h1, h2, by rw [unhide HB]; exact hb.size⟩; have z0 := S.cell_one hs.box; rw [← unhide HN] at z0; clear hs hb h1 h2 HC)
    | fail)
  clear z0
  go_loopw [2, 3, 17] (fun s2 s3 s17 wr => ∃ (k m1 m2 cx cy : Nat) (M' L' : List BV) (xo yo : Option Addr) (l' : List Ce), k ≤ n ∧ s17 = .int .i64 (k : Int) ∧ s2 = .slice xo m1 cx ∧ s3 = .slice yo m2 cy ∧ Hid (m1 = M'.length) ∧ Hid (m2 = L'.length) ∧ Hid (M'.length + L'.length ≤ k) ∧ Hid (l'.length = n) ∧ Hid (Pe u wr B a2 g2 c2 l' M' L' xo yo cx cy) ∧ Hid (peelN (n - k) M' L' l' = (M, L, cur))) (fun _ _ s17 _ => n - (intOf s17).toNat)
  case atStart => exact ⟨0, 0, 0, 0, 0, [], [], none, none, l, Nat.zero_le _, rfl, rfl, rfl, rfl, rfl, Nat.le_refl _, (unhide HN).symm, HPE, HP⟩
  case round =>
    clear HPE HP
    obtain ⟨k, k1, k2, cx, cy, M', L', xo, yo, l', hk, rfl, rfl, rfl, HK1, HK2, HKL, HLN, HPE, HP⟩ := hrel
    by_cases hlt : k < n
    · have hki : (k : Int) < (n : Int) := by omega
      have HF := hide (kFirst a2 g2 c2 l' _ (unhide HPE).sk)
      obtain ⟨f, hf⟩ : ∃ f, n - k = f + 1 := ⟨n - k - 1, by omega⟩
      have hf2 : n - (k + 1) = f := by omega
      have HF2 := hide hf2
      rw [hf] at HP
      clear hf hf2
      rcases firI_cases l' with hq | ⟨i, hi, hq, hpu⟩
      · rw [hq] at HF
        have hpe := unhide HP
        rw [peelN_stop hq] at hpe
        clear hq
        obtain ⟨e1, e2⟩ := Prod.mk.inj hpe
        obtain ⟨e2, e3⟩ := Prod.mk.inj e2
        subst e1 e2 e3
        obtain rfl : k1 = m1 := (unhide HK1).trans (unhide H1).symm
        obtain rfl : k2 = m2 := (unhide HK2).trans (unhide H2).symm
        clear hpe
        go_wp2_with (first
          | (go_at_call 27; refine (unhide HF).mono ?_; rintro e X0 ⟨rfl, hb⟩; have HPE0 := hide ((unhide HPE).below hb); have HS1 := hide (unhide HSM _ _ _ _ (unhide HPE0).m); rw [← unhide HK1] at HS1; clear HF hb)
          | (go_at_call 28; refine (unhide HS1).mono ?_; rintro e X1 ⟨rfl, ho, hb⟩; have HPE1 := hide ((unhide HPE0).sort ho hb); have HS2 := hide (unhide HSL _ _ _ _ (unhide HPE1).l); rw [← unhide HK2] at HS2; clear HS1 ho hb HSL)
          | (go_at_call 28; refine (unhide HS2).mono ?_; rintro e X2 ⟨rfl, ho, hb⟩; have HPE2 := hide ((unhide HPE1).swap.sort ho hb).swap; have HZ := hide (kZero _ _ _ _ _ (unhide HPE2).sk); rw [← unhide HR] at HZ; clear HS2 ho hb)
          | (go_at_call 29; refine (unhide HZ).mono ?_; rintro e X3 ⟨rfl, hb⟩; have HPE3 := hide ((unhide HPE2).below hb); clear HZ hb)
          | fail)
        go_ret3
        exact ⟨xo, cx, yo, cy, rfl, (unhide HPE3).m, (unhide HPE3).l, (unhide HPE3).n3, (unhide HPE3).bel⟩
      · obtain ⟨x, hx⟩ : ∃ x, x = l'[i] := ⟨_, rfl⟩
        have HX : Hid (∀ h : i < l'.length, l'[i] = x) := fun _ => hx.symm
        have HI := hide hi
        rw [hq] at HF
        have hin : (i : Int) < (n : Int) := by have := unhide HLN; omega
        have hi0 : ¬ (i : Int) < 0 := by omega
        by_cases hc : 0 < x.c.toInt
        · have hcp : (0 : Int) < x.c.toInt := hc
          have HPN := hide ((peelN_more (f := f) (M := M') (L := L') hi hq (by rw [← hx]; exact hc)).symm.trans (unhide HP))
          rw [← hx] at HPN
          have HZ8 : Hid ((M'.length + ([x.x] : List BV).length) * 8 ≤ 140737488355328) := by
            have h1 := unhide HKL
            show (M'.length + 1) * 8 ≤ _
            omega
          have hng := b_neg16 x.c
          clear hx hi hq hc hpu
          go_wp2_with (first
            | (go_at_call 27; refine (unhide HF).mono ?_; rintro e X0 ⟨rfl, hb⟩; have HPE0 := hide ((unhide HPE).below hb); obtain ⟨ix1, a0, a1, a2'⟩ := (unhide HPE0).sk.cells i (unhide HI); have zb := S.cell_one (unhide HPE0).sk.box; rw [unhide HLN] at ix1 zb; rw [unhide HX _] at a0 a1 a2'; have HPA := hide (((unhide HPE0).below ((Below.refl X0.heap.size X0).alloc (Nat.le_refl _) (.cells #[.int .i16 x.c.toInt, .int .u64 x.x.toNat, .int .u32 x.k.toNat] 57))).below ((Below.refl _ (X0.alloc (.cells #[.int .i16 x.c.toInt, .int .u64 x.x.toNat, .int .u32 x.k.toNat] 57))).alloc (Nat.le_refl _) (.cells #[.int .u64 x.x.toNat] 24))); have ho1 := oneW (X0.alloc (.cells #[.int .i16 x.c.toInt, .int .u64 x.x.toNat, .int .u32 x.k.toNat] 57)) x.x; rw [World.size_alloc] at ho1; have HOX := hide ho1; have HNX := hide (heapOld (.cells #[.int .u64 x.x.toNat] 24) (heap_alloc_new X0 (.cells #[.int .i16 x.c.toInt, .int .u64 x.x.toNat, .int .u32 x.k.toNat] 57))); clear HF hb ho1)
            | (at_builtin; (with_reducible refine wpList_putW (by rfl) (.tmp 33) (.tmp 36) (by rfl) (some 37) (by rfl) B M' [x.x] k1 1 (unhide HK1) rfl xo (some ⟨X0.heap.size + 1, 0, none⟩) cx 1 (by with_unfolding_all rfl) (by with_unfolding_all rfl) (unhide HPA).m (unhide HOX) (unhide HZ8) (unhide HPA).hB ?_); intro z9 n9 c9 X4 HP9; simp only [Act.put, List.setIfInBounds_toArray, List.set_cons_zero, List.set_cons_succ]; have hk4 := keepPut (unhide HP9) (unhide HPE0).m (Nat.le_refl _) (unhide HNX); have q1 := S.arr_cell hk4 (show (#[.int .i16 x.c.toInt, .int .u64 x.x.toNat, .int .u32 x.k.toNat] : Array Value)[1]? = some (.int .u64 x.x.toNat) from rfl); have q0 := S.arr_cell hk4 (show (#[.int .i16 x.c.toInt, .int .u64 x.x.toNat, .int .u32 x.k.toNat] : Array Value)[0]? = some (.int .i16 x.c.toInt) from rfl); have HP4 := hide (((unhide HPA).put (unhide HP9))); have HLY := hide (kLay a2 g2 c2 l' x.x (-x.c) X4 (unhide HP4).sk); clear hk4 HPA HOX HNX)
            | (go_at_call 24; refine (unhide HLY).mono ?_; rintro e X5 ⟨rfl, ha, hs⟩; have HP5 := hide ((unhide HP4).lay ha hs); clear HLY ha hs HP4)
            | fail)
          go_roundw
          case rel => exact ⟨k + 1, n9, k2, c9, cy, M' ++ [x.x], L', z9, yo, layB l' x.x (-x.c), by omega, by go_num, rfl, rfl, (unhide HP9).len, unhide HK2, by show _ ≤ _; rw [List.length_append, List.length_singleton]; have := unhide HKL; omega, by show _ = _; rw [layB_len]; exact unhide HLN, unhide HP5, by show _ = _; rw [unhide HF2]; exact unhide HPN⟩
          case measure => simp [intOf]; omega
        · have hcp : ¬ (0 : Int) < x.c.toInt := hc
          have HPN := hide ((peelN_less (f := f) (M := M') (L := L') hi hq (by rw [← hx]; exact hc)).symm.trans (unhide HP))
          rw [← hx] at HPN
          have HZ8 : Hid ((L'.length + ([x.x] : List BV).length) * 8 ≤ 140737488355328) := by
            have h1 := unhide HKL
            show (L'.length + 1) * 8 ≤ _
            omega
          have hng := b_neg16 x.c
          clear hx hi hq hc hpu
          go_wp2_with (first
            | (go_at_call 27; refine (unhide HF).mono ?_; rintro e X0 ⟨rfl, hb⟩; have HPE0 := hide ((unhide HPE).below hb); obtain ⟨ix1, a0, a1, a2'⟩ := (unhide HPE0).sk.cells i (unhide HI); have zb := S.cell_one (unhide HPE0).sk.box; rw [unhide HLN] at ix1 zb; rw [unhide HX _] at a0 a1 a2'; have HPA := hide (((unhide HPE0).below ((Below.refl X0.heap.size X0).alloc (Nat.le_refl _) (.cells #[.int .i16 x.c.toInt, .int .u64 x.x.toNat, .int .u32 x.k.toNat] 57))).below ((Below.refl _ (X0.alloc (.cells #[.int .i16 x.c.toInt, .int .u64 x.x.toNat, .int .u32 x.k.toNat] 57))).alloc (Nat.le_refl _) (.cells #[.int .u64 x.x.toNat] 24))); have ho1 := oneW (X0.alloc (.cells #[.int .i16 x.c.toInt, .int .u64 x.x.toNat, .int .u32 x.k.toNat] 57)) x.x; rw [World.size_alloc] at ho1; have HOX := hide ho1; have HNX := hide (heapOld (.cells #[.int .u64 x.x.toNat] 24) (heap_alloc_new X0 (.cells #[.int .i16 x.c.toInt, .int .u64 x.x.toNat, .int .u32 x.k.toNat] 57))); clear HF hb ho1)
            | (at_builtin; (with_reducible refine wpList_putW (by rfl) (.tmp 38) (.tmp 41) (by rfl) (some 42) (by rfl) B L' [x.x] k2 1 (unhide HK2) rfl yo (some ⟨X0.heap.size + 1, 0, none⟩) cy 1 (by with_unfolding_all rfl) (by with_unfolding_all rfl) (unhide HPA).swap.m (unhide HOX) (unhide HZ8) (unhide HPA).hB ?_); intro z9 n9 c9 X4 HP9; simp only [Act.put, List.setIfInBounds_toArray, List.set_cons_zero, List.set_cons_succ]; have hk4 := keepPut (unhide HP9) (unhide HPE0).swap.m (Nat.le_refl _) (unhide HNX); have q1 := S.arr_cell hk4 (show (#[.int .i16 x.c.toInt, .int .u64 x.x.toNat, .int .u32 x.k.toNat] : Array Value)[1]? = some (.int .u64 x.x.toNat) from rfl); have q0 := S.arr_cell hk4 (show (#[.int .i16 x.c.toInt, .int .u64 x.x.toNat, .int .u32 x.k.toNat] : Array Value)[0]? = some (.int .i16 x.c.toInt) from rfl); have HP4 := hide (((unhide HPA).swap.put (unhide HP9)).swap); have HLY := hide (kLay a2 g2 c2 l' x.x (-x.c) X4 (unhide HP4).sk); clear hk4 HPA HOX HNX)
            | (go_at_call 24; refine (unhide HLY).mono ?_; rintro e X5 ⟨rfl, ha, hs⟩; have HP5 := hide ((unhide HP4).lay ha hs); clear HLY ha hs HP4)
            | fail)
          go_roundw
          case rel => exact ⟨k + 1, k1, n9, cx, c9, M', L' ++ [x.x], xo, z9, layB l' x.x (-x.c), by omega, by go_num, rfl, rfl, unhide HK1, (unhide HP9).len, by show _ ≤ _; rw [List.length_append, List.length_singleton]; have := unhide HKL; omega, by show _ = _; rw [layB_len]; exact unhide HLN, unhide HP5, by show _ = _; rw [unhide HF2]; exact unhide HPN⟩
          case measure => simp [intOf]; omega
    · obtain rfl : k = n := by omega
      have hki : ¬ (k : Int) < (k : Int) := by omega
      have hpe := unhide HP
      rw [Nat.sub_self] at hpe
      rw [peelN] at hpe
      obtain ⟨e1, e2⟩ := Prod.mk.inj hpe
      obtain ⟨e2, e3⟩ := Prod.mk.inj e2
      subst e1 e2 e3
      obtain rfl : k1 = m1 := (unhide HK1).trans (unhide H1).symm
      obtain rfl : k2 = m2 := (unhide HK2).trans (unhide H2).symm
      have HS1 := hide (unhide HSM _ _ _ _ (unhide HPE).m)
      rw [← unhide HK1] at HS1
      clear hpe HSM
      go_wp2_with (first
        | (go_at_call 28; refine (unhide HS1).mono ?_; rintro e X1 ⟨rfl, ho, hb⟩; have HPE1 := hide ((unhide HPE).sort ho hb); have HS2 := hide (unhide HSL _ _ _ _ (unhide HPE1).l); rw [← unhide HK2] at HS2; clear HS1 ho hb HSL)
        | (go_at_call 28; refine (unhide HS2).mono ?_; rintro e X2 ⟨rfl, ho, hb⟩; have HPE2 := hide ((unhide HPE1).swap.sort ho hb).swap; have HZ := hide (kZero _ _ _ _ _ (unhide HPE2).sk); rw [← unhide HR] at HZ; clear HS2 ho hb)
        | (go_at_call 29; refine (unhide HZ).mono ?_; rintro e X3 ⟨rfl, hb⟩; have HPE3 := hide ((unhide HPE2).below hb); clear HZ hb)
        | fail)
      go_ret3
      exact ⟨xo, cx, yo, cy, rfl, (unhide HPE3).m, (unhide HPE3).l, (unhide HPE3).n3, (unhide HPE3).bel⟩
end Go.Proofs.Ytopabadnbelegaa.K
