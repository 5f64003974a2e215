/- Nodes: a leaf out of a reader. -/
import Derived.Test.YtppmpomfihalfaaNq
namespace Go.Proofs.Ytppmpomfihalfaa
open Go.RowKit

/-- the cells that k readings give, from p on -/
def leafL (s : ByteArray) : Nat → Nat → Int → List Cl × Nat × Int
  | 0, p, e => ([], p, e)
  | k + 1, p, e => if e ≠ 0 then ([], p, e) else
    let q := W.textS s p e 320
    let v := W.textS s q.2.1 q.2.2 320
    let r := leafL s k v.2.1 v.2.2
    (⟨q.1, v.1⟩ :: r.1, r.2)
theorem leafL_bad (s : ByteArray) (k p : Nat) (e : Int) (h : e ≠ 0) : leafL s k p e = ([], p, e) := by
  cases k with
  | zero => rfl
  | succ k => rw [leafL, if_pos h]
theorem leafL_len (s : ByteArray) : ∀ (k p : Nat) (e : Int), (leafL s k p e).1.length ≤ k
  | 0, _, _ => by simp [leafL]
  | k + 1, p, e => by
    rw [leafL]
    split
    · simp
    · simp only [List.length_cons]
      have := leafL_len s k (W.textS s (W.textS s p e 320).2.1 (W.textS s p e 320).2.2 320).2.1 (W.textS s (W.textS s p e 320).2.1 (W.textS s p e 320).2.2 320).2.2
      omega
/-- what the loop of takeLeaf keeps -/
structure Tl (w wr : World) (N A : Nat) (s : ByteArray) (p : Nat) (e : Int) (acc : List Cl) (v : Value) : Prop where
  rd : W.Rd wr A s p e
  u1 : U1 w wr A
  lt : A < N
  hN : N = w.heap.size
  res : wr.heap[N]? = some (.cells #[.bool false, .slice none 0 0, .slice none 0 0, .slice none 0 0] 26 (0, 0))
  box : wr.heap[N + 1]? = some (.cells #[.bool true, v, .slice none 0 0, .slice none 0 0] 26 (0, 0))
  own : wr.ownsRow (N + 2) 66 2 v acc.length (flatC acc)
theorem own_lt' {w : World} {base : Nat} {e : TypeId} {size : Nat} {v : Value} {n : Nat} {xs : List Value} (h : w.ownsRow base e size v n xs) {k : Nat} (hk : v.ownBlock = some k) : base ≤ k ∧ k < w.heap.size := by
  rcases h.2 with ⟨rfl, _⟩ | ⟨g, cap, cur, rfl, h1, h2, _⟩
  · simp [Value.ownBlock] at hk
  · simp [Value.ownBlock] at hk
    subst hk
    exact ⟨h1, (Array.getElem?_eq_some_iff.1 h2).1⟩
theorem Tl.text {w wr w2 : World} {N A : Nat} {s : ByteArray} {p p' : Nat} {e e' : Int} {acc : List Cl} {v : Value} (h : Tl w wr N A s p e acc v) (hr : W.Rt wr w2 A s p' e') : Tl w w2 N A s p' e' acc v := by
  have hN := (Array.getElem?_eq_some_iff.1 h.res).1
  have hM := (Array.getElem?_eq_some_iff.1 h.box).1
  have hl := h.lt
  refine ⟨hr.1, h.u1.trans ⟨hr.2.os, hr.2.tape, hr.2.output, hr.2.size, fun k hk hn => hr.2.block k hk hn hn⟩, h.lt, h.hN, (hr.2.block N hN (by omega) (by omega)).trans h.res, (hr.2.block (N + 1) hM (by omega) (by omega)).trans h.box, W.owns_same h.own fun k hk => ?_⟩
  have := own_lt' h.own hk
  exact hr.2.block k this.2 (by omega) (by omega)
theorem Tl.new {w wr w2 : World} {N A : Nat} {s : ByteArray} {p : Nat} {e : Int} {acc : List Cl} {v : Value} (h : Tl w wr N A s p e acc v) (hb : Below wr.heap.size wr w2) : Tl w w2 N A s p e acc v := by
  have hN := (Array.getElem?_eq_some_iff.1 h.res).1
  have hM := (Array.getElem?_eq_some_iff.1 h.box).1
  refine ⟨h.rd.same hb.size (hb.block A h.rd.lt), h.u1.trans (U1.below' hb), h.lt, h.hN, (hb.block N hN).trans h.res, (hb.block (N + 1) hM).trans h.box, W.owns_same h.own fun k hk => hb.block k (own_lt' h.own hk).2⟩
theorem Tl.put {w wr w2 : World} {N A : Nat} {s : ByteArray} {p : Nat} {e : Int} {acc : List Cl} {v v' : Value} {c : Cl} (h : Tl w wr N A s p e acc v) (hg : wr.grownBy w2 v.ownBlock) (ho : w2.ownsRow (N + 2) 66 2 v' (acc.length + 1) (flatC acc ++ [.string c.key, .string c.val])) : Tl w (w2.setCell ⟨N + 1, 1, none⟩ v') N A s p e (acc ++ [c]) v' := by
  have hN := (Array.getElem?_eq_some_iff.1 h.res).1
  have hM := (Array.getElem?_eq_some_iff.1 h.box).1
  have hA := h.rd.lt
  have hl := h.lt
  have hne : ∀ k, v.ownBlock = some k → N + 2 ≤ k := fun k hk => (own_lt' h.own hk).1
  have hb : Below (N + 2) wr w2 := (Below.refl _ _).grown hg (by omega) hne
  have hb2 : Below (N + 1) wr (w2.setCell ⟨N + 1, 1, none⟩ v') := belowCell (p := ⟨N + 1, 1, none⟩) (hb.mono (show N + 1 ≤ N + 2 by omega)) (Nat.le_refl _) v'
  have hbox := (hb.block (N + 1) (by omega)).trans h.box
  refine ⟨h.rd.same hb2.size (hb2.block A (by omega)), ⟨hb2.os.trans h.u1.os, hb2.tape.trans h.u1.tape, hb2.output.trans h.u1.output, Nat.le_trans h.u1.size hb2.size, fun k hk hn => (hb2.block k (by rw [h.hN]; omega)).trans (h.u1.block k hk hn)⟩, h.lt, h.hN, (hb2.block N (by omega)).trans h.res, ?_, ?_⟩
  · rw [heapCell_same hbox 1 v']
    rfl
  · rw [List.length_append, flatC_append]
    refine W.owns_same ho fun k hk => ?_
    have := own_lt' ho hk
    exact Below.heap_setCell w2 ⟨N + 1, 1, none⟩ v' k (by show k ≠ N + 1; omega)
theorem Tl.after {w wr w2 : World} {N A : Nat} {s : ByteArray} {p : Nat} {e : Int} {acc : List Cl} {v : Value} (h : Tl w wr N A s p e acc v) (hg : wr.grownBy w2 v.ownBlock) : w2.cell? ⟨N + 1, 1, none⟩ = some v ∧ w2.frozen? ⟨N + 1, 1, none⟩ = false := by
  have hM := (Array.getElem?_eq_some_iff.1 h.box).1
  have hb := (hg.block (N + 1) hM (fun e => by have := own_lt' h.own e.symm; omega)).trans h.box
  exact ⟨(box4 hb).2.1, by simp [World.frozen?, hb]⟩
theorem two_new (W : World) (a b : Value) (t : TypeId) : ∀ j u, [a, b][j]? = some u → (W.alloc (.cells #[a, b] t)).cell? ((⟨W.heap.size, 0, none⟩ : Addr).add j) = some u := by
  intro j u hu
  have h := heap_alloc_new W (.cells #[a, b] t)
  rw [Addr.add_mid, Nat.zero_add]
  simp only [World.cell?, h]
  simpa using hu
theorem cell_parts : ∃ i, Try.prog.info? 66 = some i ∧ i.zero = some (.agg #[.string ⟨#[]⟩, .string ⟨#[]⟩]) ∧ i.size = 2 ∧ i.bytes = 32 := by
  have h : (Try.prog.info? 66).map (fun i => (i.zero, i.size, i.bytes)) = some (some (.agg #[.string ⟨#[]⟩, .string ⟨#[]⟩]), 2, 32) := by kernel_rfl
  obtain ⟨i, hi, h2⟩ := Option.map_eq_some_iff.1 h
  simp only [Prod.mk.injEq] at h2
  exact ⟨i, hi, h2⟩
theorem results_cell {P : Program} {fn : Func} {p : Tmp} {ty : TypeId} (h : fn.results = #[.cell p ty]) (tmps : Array Value) (w : World) (g : Nat) (t : TypeId) (cs : Array Value) (fr : Nat × Nat) (d : TypeDesc)
    (hp : tmps.getD p undef = .pointer (some ⟨g, 0, none⟩)) (hg : w.heap[g]? = some (.cells cs t fr))
    (hu : P.underlying ty = some d) (hd : (match d with | .struct _ | .array _ _ => true | _ => false) = true) (hi : (P.info? ty).map (·.size) = some cs.size) :
    (results fn tmps).run P w = .ok (.agg cs) w := by
  have hp' : tmps[p]?.getD undef = .pointer (some ⟨g, 0, none⟩) := by simpa using hp
  simp [results, h, hp', asAddr, run_loadVar_row w g t ty cs fr d hg hu hd hi]
theorem fixS2_lt (s : ByteArray) (p : Nat) (e : Int) : (W.fixS s p e 2).1 < 65536 := by
  unfold W.fixS
  rw [if_neg (by omega)]
  have h1 := W.numB_lt (W.rawS s p e 2).1.data.toList
  have h2 := W.rawS_size s p e 2
  have h3 : (W.rawS s p e 2).1.data.toList.length ≤ 2 := by
    have : (W.rawS s p e 2).1.data.toList.length = (W.rawS s p e 2).1.size := rfl
    omega
  exact Nat.lt_of_lt_of_le h1 (Nat.pow_le_pow_right (by decide) h3)
set_option maxRecDepth 100000 in
set_option maxHeartbeats 4000000 in
theorem nTakeLeaf (s : ByteArray) (p0 : Nat) (e0 : Int) (A : Nat) (w : World) (h : W.Rd w A s p0 e0) :
    Calls Try.prog 117 #[.pointer (some ⟨A, 0, none⟩)] w fun e w' => ∃ ao c, e = .returned (.agg #[.bool true, .slice ao (leafL s (W.fixS s p0 e0 2).1 (W.fixS s p0 e0 2).2.1 (W.fixS s p0 e0 2).2.2).1.length c, .slice none 0 0, .slice none 0 0]) ∧ W.Rd w' A s (leafL s (W.fixS s p0 e0 2).1 (W.fixS s p0 e0 2).2.1 (W.fixS s p0 e0 2).2.2).2.1 (leafL s (W.fixS s p0 e0 2).1 (W.fixS s p0 e0 2).2.1 (W.fixS s p0 e0 2).2.2).2.2 ∧ U1 w w' A ∧ Lies w' ao (flatC (leafL s (W.fixS s p0 e0 2).1 (W.fixS s p0 e0 2).2.1 (W.fixS s p0 e0 2).2.2).1) ∧ (leafL s (W.fixS s p0 e0 2).1 (W.fixS s p0 e0 2).2.1 (W.fixS s p0 e0 2).2.2).1.length ≤ c ∧ ∀ b o, ao = some ⟨b, o, none⟩ → w.heap.size ≤ b := by
  have HF := hide (fun (v : World) (hv : W.Rd v A s p0 e0) => W.rFixed A s p0 e0 2 v hv)
  have hC := fixS2_lt s p0 e0
  generalize W.fixS s p0 e0 2 = fx at *
  obtain ⟨C, P1, E1⟩ := fx
  replace hC : C < 65536 := hC
  obtain ⟨L, hL⟩ : ∃ L, L = leafL s C P1 E1 := ⟨_, rfl⟩
  show Calls Try.prog 117 #[.pointer (some ⟨A, 0, none⟩)] w fun e w' => ∃ ao c, e = .returned (.agg #[.bool true, .slice ao (leafL s C P1 E1).1.length c, .slice none 0 0, .slice none 0 0]) ∧ W.Rd w' A s (leafL s C P1 E1).2.1 (leafL s C P1 E1).2.2 ∧ U1 w w' A ∧ Lies w' ao (flatC (leafL s C P1 E1).1) ∧ (leafL s C P1 E1).1.length ≤ c ∧ ∀ b o, ao = some ⟨b, o, none⟩ → w.heap.size ≤ b
  rw [← hL]
  have HL := hide hL
  have HLL : Hid (L.1.length ≤ C) := by rw [hL]; exact leafL_len s C P1 E1
  have HR := hide h
  obtain ⟨N, hN⟩ : ∃ N, N = w.heap.size := ⟨_, rfl⟩
  have HN := hide hN
  obtain ⟨i0, hi, hz0, hz1, hz2⟩ := cell_parts
  have HCI := hide (And.intro hi (And.intro hz0 (And.intro hz1 hz2)))
  clear h hL hN hi hz0 hz1 hz2
  go_enter Try.func117, Try.ntmps117
  go_wp2_with (first
    | (with_reducible refine wpList_alloc_node (by rfl) (by rfl) (some 2) (by rfl) N (unhide HN) ?_; intro W1 HX1 HW1 HS1; simp only [Act.put, List.setIfInBounds_toArray, List.set_cons_zero, List.set_cons_succ])
    | (with_reducible refine wpList_alloc_node (by rfl) (by rfl) (some 3) (by rfl) (N + 1) (unhide HS1).symm ?_; intro W2 HX2 HW2 HS2; simp only [Act.put, List.setIfInBounds_toArray, List.set_cons_zero, List.set_cons_succ])
    | (with_reducible refine wpList_store_node (by rfl) (.tmp 3) (.tmp 7) (by rfl) (N + 1) true none 0 0 none 0 0 none 0 0 (by with_unfolding_all rfl) (by with_unfolding_all rfl) (unhide HX2) ?_; intro W3 HX3 HE3; simp only [Act.put])
    | fail)
  have HT3 : Hid (Tl w W3 N A s p0 e0 [] (.slice none 0 0)) := by
    have hb1 := unhide HW1
    have hb2 := unhide HW2
    have hb3 : Below (N + 1) W1 W3 := by rw [unhide HE3]; exact belowRow hb2 (Nat.le_refl _) _
    have hlt := (unhide HR).lt
    have hbel : Below N w W3 := hb1.trans (hb3.mono (Nat.le_succ N))
    exact ⟨(unhide HR).same hbel.size (hbel.block A (by rw [unhide HN]; exact hlt)), U1.below' (by rw [← unhide HN]; exact hbel), by rw [unhide HN]; exact hlt, unhide HN, (hb3.block N (Nat.lt_succ_self N)).trans (unhide HX1), unhide HX3, World.ownsRow_nil _ _ _ _⟩
  clear HX1 HW1 HS1 HX2 HW2 HS2 HX3 HE3 HR
  refine (unhide HF W3 (unhide HT3).rd).mono ?_
  rintro e W4 ⟨rfl, hr4⟩
  have HT4 := hide ((unhide HT3).text hr4)
  clear hr4 HT3
  go_wp2_with fail
  go_loopw [4] (fun c wr => ∃ (k p : Nat) (e : Int) (acc : List Cl) (ao : Option Addr) (cp : Nat), c = .int .u64 k ∧ Hid (Tl w wr N A s p e acc (.slice ao acc.length cp) ∧ acc.length + k ≤ C ∧ L.1 = acc ++ (leafL s k p e).1 ∧ L.2 = (leafL s k p e).2)) (fun c _ => (intOf c).toNat)
  case atStart => exact ⟨C, P1, E1, [], none, 0, rfl, unhide HT4, by simp, by rw [unhide HL]; rfl, by rw [unhide HL]⟩
  case round =>
    clear HT4
    obtain ⟨k, p, e, acc, ao, cp, rfl, HI⟩ := hrel
    have HOUT : Hid ((k = 0 ∨ e ≠ 0) → L.1 = acc ∧ L.2 = (p, e)) := fun hx => by
      have h3 := (unhide HI).2.2
      have : leafL s k p e = ([], p, e) := by
        rcases hx with rfl | hx
        · rfl
        · exact leafL_bad s k p e hx
      rw [this] at h3
      exact ⟨by simpa using h3.1, h3.2⟩
    obtain ⟨an, han⟩ : ∃ an, an = acc.length := ⟨_, rfl⟩
    have HAN := hide han
    have hac : an + k ≤ C := by rw [han]; exact (unhide HI).2.1
    have hki0 : (k : Int) ≤ 65536 := by omega
    rw [← han] at HI
    clear han
    obtain ⟨y0, y1, y2, y3⟩ := box4 (unhide HI).1.box
    by_cases hk : k = 0
    · have hki : ¬ (0 : Int) < (k : Int) := by omega
      have hout := unhide HOUT (.inl hk)
      clear HOUT
      have HLV : Hid (W.Rd wr A s L.2.1 L.2.2 ∧ U1 w wr A ∧ Lies wr ao (flatC L.1) ∧ an = L.1.length ∧ an ≤ cp) := by
        rw [hout.1, hout.2]
        have ho := (unhide HI).1.own
        refine ⟨(unhide HI).1.rd, (unhide HI).1.u1, fun h0 => ?_, unhide HAN, ?_⟩
        · rcases ho.2 with ⟨_, hn⟩ | ⟨g, cap, cur, hv, h1, h2, h3, h4, h5, h6⟩
          · rw [flatC_len, hn] at h0; simp at h0
          · cases hv
            refine ⟨g, 0, rfl, fun j x hx => ?_⟩
            simp only [World.cell?, h2, Nat.zero_add]
            rw [← h6] at hx
            rw [List.getElem?_take] at hx
            split at hx
            · simpa using hx
            · cases hx
        · rcases ho.2 with ⟨hv, hn⟩ | ⟨g, cap, cur, hv, h1, h2, h3, h4, h5, h6⟩
          · rw [unhide HAN, hn]; exact Nat.zero_le _
          · cases hv; rw [unhide HAN]; exact h3
      clear hout
      go_wp2_with (first
        | (with_reducible refine wpList_store_node (by rfl) (.tmp 2) (.tmp 31) (by rfl) N true ao an cp none 0 0 none 0 0 (by with_unfolding_all rfl) (by with_unfolding_all rfl) (unhide HI).1.res ?_; intro W8 HX8 HE8; simp only [Act.put])
        | fail)
      have HB8 : Hid (Below N wr W8) := by rw [unhide HE8]; exact belowRow (Below.refl _ _) (Nat.le_refl _) _
      have HF8 : Hid (W.Rd W8 A s L.2.1 L.2.2 ∧ U1 w W8 A ∧ Lies W8 ao (flatC L.1)) := by
        have hlv := unhide HLV
        have hb := unhide HB8
        have hlt := (unhide HI).1.lt
        refine ⟨hlv.1.same hb.size (hb.block A hlt), ⟨hb.os.trans hlv.2.1.os, hb.tape.trans hlv.2.1.tape, hb.output.trans hlv.2.1.output, Nat.le_trans hlv.2.1.size hb.size, fun k hk hn => (hb.block k (by rw [unhide HN]; exact hk)).trans (hlv.2.1.block k hk hn)⟩, ?_⟩
        rw [unhide HE8]
        refine hlv.2.2.1.setRow N _ fun b o e => ?_
        have ho := (unhide HI).1.own
        have := own_lt' ho (k := b) (by rw [e]; rfl)
        omega
      clear HE8
      go_wp2
      refine bodyPost_ret (results_cell rfl _ _ N 26 #[.bool true, .slice ao an cp, .slice none 0 0, .slice none 0 0] (0, 0) _ rfl (unhide HX8) nodeUnd rfl nodeInfo) rfl ?_
      exact ⟨ao, cp, by rw [(unhide HLV).2.2.2.1], (unhide HF8).1, (unhide HF8).2.1, (unhide HF8).2.2, by rw [← (unhide HLV).2.2.2.1]; exact (unhide HLV).2.2.2.2, fun b o e => by have := own_lt' (unhide HI).1.own (k := b) (by rw [e]; rfl); have := unhide HN; omega⟩
    · have hki : (0 : Int) < (k : Int) := by omega
      by_cases he : e = 0
      · obtain ⟨k', rfl⟩ : ∃ k', k = k' + 1 := ⟨k - 1, by omega⟩
        subst he
        have HE := hide (W.rErr A s p 0 wr (unhide HI).1.rd)
        have HT1 := hide (W.rText A s p 0 320 wr (unhide HI).1.rd (by decide))
        have HREC : Hid (leafL s (k' + 1) p 0 = (⟨(W.textS s p 0 320).1, (W.textS s (W.textS s p 0 320).2.1 (W.textS s p 0 320).2.2 320).1⟩ :: (leafL s k' (W.textS s (W.textS s p 0 320).2.1 (W.textS s p 0 320).2.2 320).2.1 (W.textS s (W.textS s p 0 320).2.1 (W.textS s p 0 320).2.2 320).2.2).1, (leafL s k' (W.textS s (W.textS s p 0 320).2.1 (W.textS s p 0 320).2.2 320).2.1 (W.textS s (W.textS s p 0 320).2.1 (W.textS s p 0 320).2.2 320).2.2).2)) := by
          have : (0 : Int) = 0 := rfl
          exact if_neg (fun h => h this)
        generalize W.textS s p 0 320 = q at *
        obtain ⟨q, p1, e1⟩ := q
        have HT2 := hide (fun (v : World) (hv : W.Rd v A s p1 e1) => W.rText A s p1 e1 320 v hv (by decide))
        replace HREC : Hid (leafL s (k' + 1) p 0 = (⟨q, (W.textS s p1 e1 320).1⟩ :: (leafL s k' (W.textS s p1 e1 320).2.1 (W.textS s p1 e1 320).2.2).1, (leafL s k' (W.textS s p1 e1 320).2.1 (W.textS s p1 e1 320).2.2).2)) := unhide HREC
        generalize W.textS s p1 e1 320 = t2 at *
        obtain ⟨q2, p2, e2⟩ := t2
        replace HREC : Hid (leafL s (k' + 1) p 0 = (⟨q, q2⟩ :: (leafL s k' p2 e2).1, (leafL s k' p2 e2).2)) := unhide HREC
        replace HT1 : Hid (Calls Try.prog 139 #[.pointer (some ⟨A, 0, none⟩), .int .i64 320] wr fun y w' => y = .returned (.string q) ∧ W.Rt wr w' A s p1 e1) := unhide HT1
        replace HT2 : Hid (∀ v, W.Rd v A s p1 e1 → Calls Try.prog 139 #[.pointer (some ⟨A, 0, none⟩), .int .i64 320] v fun y w' => y = .returned (.string q2) ∧ W.Rt v w' A s p2 e2) := unhide HT2
        clear HOUT hk
        go_wp2_with fail
        refine (unhide HE).mono ?_
        rintro e5 w5 ⟨rfl, hw5⟩
        obtain rfl := hw5.symm
        clear hw5
        go_wp2_with fail
        refine (unhide HT1).mono ?_
        rintro e5 w5 ⟨rfl, hr5⟩
        have HI5 := hide ((unhide HI).1.text hr5)
        clear hr5
        go_wp2_with fail
        refine (unhide HT2 w5 (unhide HI5).rd).mono ?_
        rintro e6 w6 ⟨rfl, hr6⟩
        have HI6 := hide ((unhide HI5).text hr6)
        clear hr6 HI5 y0 y1 y2 y3
        obtain ⟨y0, y1, y2, y3⟩ := box4 (unhide HI6).box
        have HZ6 : Hid (N + 2 ≤ w6.heap.size) := (Array.getElem?_eq_some_iff.1 (unhide HI6).box).1
        have HO6 : Hid (w6.ownsRow (N + 2) 66 2 (.slice ao an cp) an (flatC acc)) := by have := (unhide HI6).own; rw [← unhide HAN] at this; exact this
        go_wp2_with (first
          | (at_builtin; refine W.wpList_put _ rfl (.tmp 24) (.tmp 28) 22 rfl (N + 2) 66 i0 (.agg #[.string ⟨#[]⟩, .string ⟨#[]⟩]) 2 32 undC (unhide HCI).1 (unhide HCI).2.1 (unhide HCI).2.2.1 (unhide HCI).2.2.2 rfl (by decide) (.slice ao an cp) an (flatC acc) rfl ((unhide HO6).alloc _) ⟨_, 0, none⟩ 1 1 [.string q, .string q2] rfl rfl (two_new _ _ _ _) (by simp [Value.oneCell']) (by simp only [maxLen]; omega) (by omega) (by simp; have := unhide HZ6; omega) ?_; intro v' w10 hown' hgrow hnew; clear hnew; obtain ⟨z1, zf⟩ := ((unhide HI6).new ((Below.refl _ _).alloc (Nat.le_refl _) (.cells #[.string q, .string q2] 66))).after hgrow; obtain ⟨ao2, cp2, rfl⟩ := W.owns_shape hown'; have HOW := hide hown'; have HGR := hide hgrow; clear hown' hgrow)
          | fail)
        have HI7 : Hid (Tl w (w10.setCell ⟨N + 1, 1, none⟩ (.slice ao2 (an + 1) cp2)) N A s p2 e2 (acc ++ [⟨q, q2⟩]) (.slice ao2 (an + 1) cp2)) := ((unhide HI6).new ((Below.refl _ _).alloc (Nat.le_refl _) (.cells #[.string q, .string q2] 66))).put (unhide HGR) (by rw [← unhide HAN]; exact unhide HOW)
        have HL7 : Hid (L.1 = (acc ++ [⟨q, q2⟩]) ++ (leafL s k' p2 e2).1 ∧ L.2 = (leafL s k' p2 e2).2) := by
          have h3 := (unhide HI).2.2
          rw [unhide HREC] at h3
          exact ⟨by rw [h3.1]; simp, h3.2⟩
        clear HOW HGR HO6 HI6 HI z1 zf y0 y1 y2 y3
        go_wp2
        go_roundw
        case rel => exact ⟨k', p2, e2, acc ++ [⟨q, q2⟩], ao2, cp2, by go_num, by rw [List.length_append, ← unhide HAN]; exact unhide HI7, by rw [List.length_append, ← unhide HAN]; simp; omega, (unhide HL7).1, (unhide HL7).2⟩
        case measure => simp [intOf]
      · have HE := hide (W.rErr A s p e wr (unhide HI).1.rd)
        have hei : ¬ e = 0 := he
        have hout := unhide HOUT (.inr he)
        clear HOUT
        have HLV : Hid (W.Rd wr A s L.2.1 L.2.2 ∧ U1 w wr A ∧ Lies wr ao (flatC L.1) ∧ an = L.1.length ∧ an ≤ cp) := by
          rw [hout.1, hout.2]
          have ho := (unhide HI).1.own
          refine ⟨(unhide HI).1.rd, (unhide HI).1.u1, fun h0 => ?_, unhide HAN, ?_⟩
          · rcases ho.2 with ⟨_, hn⟩ | ⟨g, cap, cur, hv, h1, h2, h3, h4, h5, h6⟩
            · rw [flatC_len, hn] at h0; simp at h0
            · cases hv
              refine ⟨g, 0, rfl, fun j x hx => ?_⟩
              simp only [World.cell?, h2, Nat.zero_add]
              rw [← h6] at hx
              rw [List.getElem?_take] at hx
              split at hx
              · simpa using hx
              · cases hx
          · rcases ho.2 with ⟨hv, hn⟩ | ⟨g, cap, cur, hv, h1, h2, h3, h4, h5, h6⟩
            · rw [unhide HAN, hn]; exact Nat.zero_le _
            · cases hv; rw [unhide HAN]; exact h3
        clear hout
        go_wp2_with fail
        refine (unhide HE).mono ?_
        rintro e5 w5 ⟨rfl, hw5⟩
        obtain rfl := hw5.symm
        clear hw5
        go_wp2_with (first
          | (with_reducible refine wpList_store_node (by rfl) (.tmp 2) (.tmp 31) (by rfl) N true ao an cp none 0 0 none 0 0 (by with_unfolding_all rfl) (by with_unfolding_all rfl) (unhide HI).1.res ?_; intro W8 HX8 HE8; simp only [Act.put])
          | fail)
        have HB8 : Hid (Below N wr W8) := by rw [unhide HE8]; exact belowRow (Below.refl _ _) (Nat.le_refl _) _
        have HF8 : Hid (W.Rd W8 A s L.2.1 L.2.2 ∧ U1 w W8 A ∧ Lies W8 ao (flatC L.1)) := by
          have hlv := unhide HLV
          have hb := unhide HB8
          have hlt := (unhide HI).1.lt
          refine ⟨hlv.1.same hb.size (hb.block A hlt), ⟨hb.os.trans hlv.2.1.os, hb.tape.trans hlv.2.1.tape, hb.output.trans hlv.2.1.output, Nat.le_trans hlv.2.1.size hb.size, fun k hk hn => (hb.block k (by rw [unhide HN]; exact hk)).trans (hlv.2.1.block k hk hn)⟩, ?_⟩
          rw [unhide HE8]
          refine hlv.2.2.1.setRow N _ fun b o e => ?_
          have ho := (unhide HI).1.own
          have := own_lt' ho (k := b) (by rw [e]; rfl)
          omega
        clear HE8
        go_wp2
        refine bodyPost_ret (results_cell rfl _ _ N 26 #[.bool true, .slice ao an cp, .slice none 0 0, .slice none 0 0] (0, 0) _ rfl (unhide HX8) nodeUnd rfl nodeInfo) rfl ?_
        exact ⟨ao, cp, by rw [(unhide HLV).2.2.2.1], (unhide HF8).1, (unhide HF8).2.1, (unhide HF8).2.2, by rw [← (unhide HLV).2.2.2.1]; exact (unhide HLV).2.2.2.2, fun b o e => by have := own_lt' (unhide HI).1.own (k := b) (by rw [e]; rfl); have := unhide HN; omega⟩
end Go.Proofs.Ytppmpomfihalfaa
