/- Segments: entries in memory; Valid of both sides. Written by mksge.py. -/
import Derived.Test.YtbahlfpcbplofaaSgc
namespace Go.Proofs.Ytbahlfpcbplofaa.S
open Go.RowKit Go.Lib
section
variable {P : Program} {ops : Array Oper} {Q : Exit → Act → World → Prop} {md : Region.Mode} {S : World → Prop} {last : Nat}
/-- take number i first, which is not wanted -/
theorem wpAnyL_skip (i : Nat) (d : Tmp) (r : List Nat) {oi : Oper} {fuel : Nat} {listed : Array Bool} {a : Act} {w : World} (hi : ops[i]? = some oi) (hd : oi.dst = some d)
    (hs : Region.noSelect ops = true) (hf : Region.free md ops listed i = true) (hr : (Region.ready md ops listed).contains i = true) (hc : chained md ops last i r = true) (hu : (r.all fun y => !listed.getD y true) = true)
    (hQ : ∀ c a w, Q (.panic c) (a.put (some d) undef) w → Q (.panic c) a w) (hg : Region.wanted oi (yielded ops a.tmps) = false) (hS : S w)
    (h : wpAnyL P md ops Q S last fuel (listed.setIfInBounds i true) (a.put (some d) undef) w) : wpAnyL P md ops Q S last (fuel + 1) listed a w := by
  have hu' : unlisted listed r := by
    clear hc
    induction r with
    | nil => trivial
    | cons y r ih =>
      simp only [List.all_cons, Bool.and_eq_true, Bool.not_eq_true'] at hu
      exact ⟨hu.1, ih hu.2⟩
  exact wpAnyL_first hi (Region.noSelect_spec hs) (by rw [hd]; exact hQ) r hc fuel listed a w hu' (Region.free_spec hi hf) (by simpa using hr) (.inr ⟨hg, rfl⟩) hS (by rw [hd]; exact h)
theorem wpAnyL_two {i j : Nat} {o o' : Oper} {fuel : Nat} {listed : Array Bool} {a : Act} {w : World} (hr : Region.ready md ops listed = [i, j]) (ho : ops[i]? = some o) (ho' : ops[j]? = some o') (hg : Region.wanted o (yielded ops a.tmps) = true) (hg' : Region.wanted o' (yielded ops a.tmps) = true)
    (h : ∀ K : Act → World → Prop, (∀ a w, (i ≠ last → S w) → wpAnyL P md ops Q S last fuel (listed.setIfInBounds i true) a w → K a w) → Oper.wp P o a w K Q)
    (h' : ∀ K : Act → World → Prop, (∀ a w, (j ≠ last → S w) → wpAnyL P md ops Q S last fuel (listed.setIfInBounds j true) a w → K a w) → Oper.wp P o' a w K Q) : wpAnyL P md ops Q S last (fuel + 1) listed a w := by
  refine ⟨fun h0 => absurd (hr ▸ h0) (by simp), ?_⟩
  rw [hr]
  intro k hk
  rcases List.mem_cons.1 hk with rfl | hk
  · refine wpOp_step ho fun K hK => ?_
    rw [if_pos hg]
    exact h K fun a w hs hw => hK a w ⟨hs, hw⟩
  · obtain rfl : k = j := by simpa using hk
    refine wpOp_step ho' fun K hK => ?_
    rw [if_pos hg']
    exact h' K fun a w hs hw => hK a w ⟨hs, hw⟩
end
theorem wp_buildTo {P : Program} {o : Oper} {a : Act} {w : World} {K : Act → World → Prop} {Q : Exit → Act → World → Prop} {t : TypeId} {len : Nat} {parts : Array (Nat × Operand)} (ho : o.op = .buildSlice t len parts)
    (v : Value) (w' : World) (hr : (Instr.buildSlice t len (parts.map fun (i, x) => (i, a.eval x))).run P w = .ok v w') (d : Option Tmp) (hd : o.dst = d) (h : K (a.put d v) w') : o.wp P a w K Q := by
  subst hd
  unfold Oper.wp execOp
  simp only [ho, Sem.run_bind, hr, Result.andThen_ok, Sem.run_pure]
  exact h

theorem lt_cases (a b : ByteArray) : (lt a b = true ∧ Op.bytesLess a.toList b.toList = true ∧ Op.bytesLess b.toList a.toList = false ∧ (a.toList == b.toList) = false ∧ (b.toList == a.toList) = false ∧ ¬ a.toList = b.toList ∧ ¬ b.toList = a.toList) ∨ (lt a b = false ∧ lt b a = true ∧ Op.bytesLess a.toList b.toList = false ∧ Op.bytesLess b.toList a.toList = true ∧ (a.toList == b.toList) = false ∧ (b.toList == a.toList) = false ∧ ¬ a.toList = b.toList ∧ ¬ b.toList = a.toList) ∨ (lt a b = false ∧ a = b) := by
  cases h1 : lt a b
  · cases h2 : lt b a
    · exact .inr (.inr ⟨rfl, lt_total h1 h2⟩)
    · have hn : ¬ a.toList = b.toList := fun e => lt_ne h2 (ba_list e.symm)
      refine .inr (.inl ⟨rfl, rfl, h1, h2, ?_, ?_, hn, fun e => hn e.symm⟩)
      · rw [beq_eq_false_iff_ne]; exact hn
      · rw [beq_eq_false_iff_ne]; exact fun e => hn e.symm
  · have hn : ¬ a.toList = b.toList := fun e => lt_ne h1 (ba_list e)
    refine .inl ⟨rfl, h1, lt_asymm h1, ?_, ?_, hn, fun e => hn e.symm⟩
    · rw [beq_eq_false_iff_ne]; exact hn
    · rw [beq_eq_false_iff_ne]; exact fun e => hn e.symm
/-- an entry in a variable -/
def enRow (k x : ByteArray) : Obj := .cells #[.string k, .string x] 43 (0, 0)
theorem zeroEn : ((Try.prog.info? 43).bind (·.zero)).map (·.cells) = some #[.string ⟨#[]⟩, .string ⟨#[]⟩] := by kernel_rfl
theorem enInfo : (Try.prog.info? 43).map (·.size) = some 2 := by kernel_rfl
theorem enUnd : Try.prog.underlying 43 = some (.struct (match Try.prog.underlying 43 with | some (.struct fs) => fs | _ => #[])) := by kernel_rfl
theorem en_cells {W : World} {N : Nat} {k x : ByteArray} (h : W.heap[N]? = some (enRow k x)) : W.cell? ⟨N, 0, none⟩ = some (.string k) ∧ W.cell? ⟨N, 1, none⟩ = some (.string x) := box2 h
theorem en_one (k x : ByteArray) : (#[.string k, .string x] : Array Value).all (·.oneCell') = true := by
  rw [Array.all_eq_true']
  intro v hv
  simp only [List.mem_toArray, List.mem_cons, List.not_mem_nil, or_false] at hv
  rcases hv with rfl | rfl <;> rfl
theorem wpList_alloc_en {ops : Array Oper} {rest : List Oper} {o : Oper} {a : Act} {w : World} {Q : Exit → Act → World → Prop} (hg : o.guard = none) (ho : o.op = .alloc 43) (d : Option Tmp) (hd : o.dst = d) (N : Nat) (hN : N = w.heap.size)
    (h : ∀ w', Hid (w'.heap[N]? = some (enRow ⟨#[]⟩ ⟨#[]⟩)) → Hid (Below N w w') → Hid (w'.heap.size = N + 1) → wpList Try.prog ops Q rest (a.put d (.pointer (some ⟨N, 0, none⟩))) w') : wpList Try.prog ops Q (o :: rest) a w :=
  wpList_alloc_row hg _ ho d hd N hN.symm _ zeroEn h
theorem wpList_store_en {ops : Array Oper} {rest : List Oper} {o : Oper} {a : Act} {w : World} {Q : Exit → Act → World → Prop} (hgd : o.guard = none) (x y : Operand) (ho : o.op = .store 43 x y) (g : Nat) (k z : ByteArray) (hx : a.eval x = .pointer (some ⟨g, 0, none⟩)) (hy : a.eval y = .agg #[.string k, .string z])
    (k0 z0 : ByteArray) (hg : w.heap[g]? = some (enRow k0 z0))
    (h : ∀ w', Hid (w'.heap[g]? = some (enRow k z)) → Hid (w' = w.setRow g #[.string k, .string z]) → wpList Try.prog ops Q rest (a.put o.dst undef) w') : wpList Try.prog ops Q (o :: rest) a w :=
  wpList_store_hid hgd _ x y ho g _ hx hy _ _ hg enInfo rfl (en_one _ _) h
theorem wpList_box_en {ops : Array Oper} {rest : List Oper} {o : Oper} {a : Act} {w : World} {Q : Exit → Act → World → Prop} (hg : o.guard = none) (x : Operand) (ho : o.op = .box 43 x) (d : Option Tmp) (hd : o.dst = d) (N : Nat) (hN : N = w.heap.size) (k z : ByteArray) (hx : a.eval x = .agg #[.string k, .string z])
    (h : ∀ w', Hid (w'.heap[N]? = some (enRow k z)) → Hid (Below N w w') → Hid (w'.heap.size = N + 1) → wpList Try.prog ops Q rest (a.put d (.pointer (some ⟨N, 0, none⟩))) w') : wpList Try.prog ops Q (o :: rest) a w :=
  wpList_box_row hg _ x ho d hd N hN.symm _ (by rw [hx]; rfl) h
def ecs (e : En) : List Value := [.string e.1, .string e.2]
/-- entries as records -/
def RE : Rec Try.prog En where
  st := 27
  et := 43
  n := 2
  bts := 32
  cs := ecs
  hn := by decide
  len := fun _ => rfl
  one := fun x v hv => by
    simp only [ecs, List.mem_cons, List.not_mem_nil, or_false] at hv
    rcases hv with rfl | rfl <;> rfl
  und := by kernel_rfl
  info := by
    have h : (Try.prog.info? 43).map (fun i => (i.zero, i.size, i.bytes)) = some (some (.agg #[.string ⟨#[]⟩, .string ⟨#[]⟩]), 2, 32) := by kernel_rfl
    obtain ⟨i, hi, h2⟩ := Option.map_eq_some_iff.1 h
    simp only [Prod.mk.injEq] at h2
    exact ⟨i, _, hi, h2.1, rfl, h2.2.1, h2.2.2⟩
  pos := by decide
theorem ixE (g o n c i : Nat) (hi : i < n) (W : World) : (Instr.indexAt 27 (.slice (some ⟨g, o, none⟩) n c) (.int .i64 (i : Int))).run Try.prog W = .ok (.pointer (some ⟨g, o + i * 2, none⟩)) W := RE.ix g o n c i hi W
/-- entries behind a slice, and the length of the slice -/
structure El (w : World) (l : List En) (ao : Option Addr) (n c : Nat) : Prop extends RE.At w l ao c where
  hn : n = l.length
theorem El.below {w w' : World} {l : List En} {ao : Option Addr} {n c : Nat} (h : El w l ao n c) (hb : Below w.heap.size w w') : El w' l ao n c := ⟨h.toAt.below hb, h.hn⟩
theorem El.few {w : World} {l : List En} {ao : Option Addr} {n c : Nat} (h : El w l ao n c) : n ≤ 4398046511000 := by rw [h.hn]; exact h.many
theorem El.en {w : World} {l : List En} {ao : Option Addr} {n c : Nat} (h : El w l ao n c) {i : Nat} (hi : i < l.length) : ∃ g o, ao = some ⟨g, o, none⟩ ∧ w.cell? ⟨g, o + i * 2, none⟩ = some (.string l[i].1) ∧ w.cell? ⟨g, o + i * 2 + 1, none⟩ = some (.string l[i].2) := by
  obtain ⟨g, o, e, h1⟩ := h.toAt.get hi
  exact ⟨g, o, e, h1 0 _ rfl, h1 1 _ rfl⟩
theorem cell_keep {u W : World} {g o : Nat} {v : Value} (hb : Below u.heap.size u W) (h : u.cell? ⟨g, o, none⟩ = some v) : W.cell? ⟨g, o, none⟩ = some v := (hb.cell (p := ⟨g, o, none⟩) (World.block_lt_of_cell? u _ h)).trans h
theorem entQK : ∀ args (w : World), (callFunc 60 args).run Try.prog w = .ok (.enter 60 args) w := by
  intro args w
  go_simp
set_option maxRecDepth 100000 in
set_option maxHeartbeats 4000000 in
theorem sValid (l : List En) (ao : Option Addr) (n c : Nat) (wd : Int) (u : World) (h : El u l ao n c) : Calls Try.prog 22 #[.slice ao n c, .int .i64 wd] u fun e u' => e = .returned (.bool (okB l wd)) ∧ Below u.heap.size u u' := by
  obtain ⟨N, hN⟩ : ∃ N, N = u.heap.size := ⟨_, rfl⟩
  have HN := hide hN
  rw [← hN]
  clear hN
  have HW := hide (sIsWid wd)
  by_cases hw : widP wd
  · rw [widB_true.2 hw] at HW
    have HQ := hide h
    have hnf := h.few
    have HLN := hide h.hn
    have HE : Hid (∀ i (hi : i < l.length), ¬ good l wd i hi → okB l wd = false) := fun i hi hg => not_ok_at hi hg
    have HT : Hid ((∀ i (hi : i < l.length), good l wd i hi) → okB l wd = true) := fun hg => okB_true.2 ⟨hw, hg⟩
    generalize okB l wd = ok at *
    have hni : (n : Int) ≤ 4398046511000 := by omega
    clear h hw hnf
    go_enter Try.func22, Try.ntmps22
    go_wp2_with (first
      | (go_at_call 67; refine (unhide HW u).mono ?_; rintro e W0 ⟨rfl, rfl⟩)
      | fail)
    go_loopw [12] (fun i wr => ∃ k : Nat, k ≤ n ∧ i = .int .i64 k ∧ Hid (Below N W0 wr ∧ ∀ j (hj : j < l.length), j < k → good l wd j hj)) (fun i _ => n - (intOf i).toNat)
    case atStart => exact ⟨0, Nat.zero_le _, rfl, by rw [unhide HN]; exact Below.refl _ _, fun j _ hj => absurd hj (Nat.not_lt_zero _)⟩
    case round =>
      obtain ⟨k, hk, rfl, HI⟩ := hrel
      by_cases hlt : k < n
      · have hki : (k : Int) < (n : Int) := by omega
        have hkl : k < l.length := by rw [← unhide HLN]; exact hlt
        have HLB := hide ((unhide HQ).below (by rw [← unhide HN]; exact (unhide HI).1))
        obtain ⟨g, o, hao, c1, c2⟩ := (unhide HLB).en hkl
        subst hao
        have hix := ixE g o n c k hlt
        obtain ⟨M, hM⟩ : ∃ M, M = wr.heap.size := ⟨_, rfl⟩
        have HM := hide hM
        have HMN : Hid (N ≤ M) := by rw [hM, unhide HN]; exact (unhide HI).1.size
        clear hM
        have HG : Hid (good l wd k hkl ↔ keyE l[k].1 = 0 ∧ (l[k].2.size : Int) = wd ∧ (0 < k → lt l[k - 1].1 l[k].1 = true)) := Iff.rfl
        have HBN : Hid (∀ W : World, Below M wr W → Below N W0 W) := fun W hW => (unhide HI).1.trans (hW.mono (unhide HMN))
        have HR : Hid (good l wd k hkl → ∀ j (hj : j < l.length), j < k + 1 → good l wd j hj) := fun hg j hj hjk => by
          rcases Nat.lt_succ_iff_lt_or_eq.1 hjk with h | rfl
          · exact (unhide HI).2 j hj h
          · exact hg
        have HE1 := hide (unhide HE k hkl)
        generalize hq : l[k] = q at *
        obtain ⟨qk, qs⟩ := q
        have c1 : wr.cell? ⟨g, o + k * 2, none⟩ = some (.string qk) := c1
        have c2 : wr.cell? ⟨g, o + k * 2 + 1, none⟩ = some (.string qs) := c2
        have HG2 : Hid (good l wd k hkl ↔ keyE qk = 0 ∧ (qs.size : Int) = wd ∧ (0 < k → lt l[k - 1].1 qk = true)) := HG
        have HKY := hide (oKey qk)
        clear hq HI HG HE
        generalize o + k * 2 = oo at *
        by_cases hky : keyE qk = 0
        · rw [hky] at HKY
          have HC1 := hide hky
          clear hky
          by_cases hsz : (qs.size : Int) = wd
          · have HC2 := hide hsz
            have hs1 : ((qs.size : Int) != wd) = false := by rw [hsz]; simp
            by_cases hk0 : k = 0
            · have HK0 := hide hk0
              have HGk : Hid (good l wd k hkl) := (unhide HG2).2 ⟨unhide HC1, unhide HC2, fun h => by have := unhide HK0; omega⟩
              have hk1 : ¬ (0 : Int) < (k : Int) := by omega
              have hk2 : decide ((0 : Int) < (k : Int)) = false := decide_eq_false hk1
              have hk3 : decide (0 < k) = false := decide_eq_false (by omega)
              clear hk0 hk1
              go_wp2_with (first
                | ((with_reducible refine wpList_alloc_en (by rfl) (by rfl) (some 6) (by rfl) M (unhide HM) ?_); intro W1 HX1 HB1 HS1; simp only [Act.put, List.setIfInBounds_toArray, List.set_cons_zero, List.set_cons_succ])
                | ((with_reducible refine wpList_store_en (by rfl) (.tmp 6) (.tmp 16) (by rfl) M qk qs (by with_unfolding_all rfl) (by with_unfolding_all rfl) _ _ (unhide HX1) ?_); intro W2 HX2 HE2; simp only [Act.put]; obtain ⟨y0, y1⟩ := en_cells (unhide HX2); have HB2 : Hid (Below M wr W2) := (by rw [unhide HE2]; exact belowRow (unhide HB1) (Nat.le_refl _) _))
                | (go_at_call 68; refine (unhide HKY _).mono ?_; rintro e W3 ⟨rfl, rfl⟩)
                | fail)
              go_quiet (fail)
              go_wp2
              go_roundw
              case rel => exact ⟨k + 1, by omega, by go_num, belowDrewN (unhide HBN _ (unhide HB2)) _, unhide HR (unhide HGk)⟩
              case measure => simp [intOf]; omega
            · obtain ⟨j, hj⟩ : ∃ j, k = j + 1 := ⟨k - 1, by omega⟩
              have hjl : j < l.length := by omega
              obtain ⟨g', o', hao', d1, d2⟩ := (unhide HLB).en hjl
              cases hao'
              have hix2 := ixE g o n c j (by omega)
              have hw1 : IntKind.i64.wrap ((k : Int) - 1) = (j : Int) := by rw [IntKind.wrap_i64]; omega
              have hk1 : (0 : Int) < (k : Int) := by omega
              have hk2 : decide ((0 : Int) < (k : Int)) = true := decide_eq_true hk1
              have hk3 : decide (0 < k) = true := decide_eq_true (by omega)
              have HG3 : Hid (good l wd k hkl ↔ keyE qk = 0 ∧ (qs.size : Int) = wd ∧ lt l[j].1 qk = true) := by
                subst hj
                refine (unhide HG2).trans ⟨fun h => ⟨h.1, h.2.1, h.2.2 (Nat.succ_pos _)⟩, fun h => ⟨h.1, h.2.1, fun _ => h.2.2⟩⟩
              generalize l[j] = p at *
              obtain ⟨pk, ps⟩ := p
              have HG3 : Hid (good l wd k hkl ↔ keyE qk = 0 ∧ (qs.size : Int) = wd ∧ lt pk qk = true) := HG3
              have D1 : Hid (wr.cell? ⟨g, o + j * 2, none⟩ = some (.string pk)) := d1
              have HJ := hide hj
              clear d2 hj d1 HG2
              have HDB : Hid (∀ W : World, Below M wr W → W.cell? ⟨g, o + j * 2, none⟩ = some (.string pk)) := fun W hW => cell_keep (by rw [← unhide HM]; exact hW) (unhide D1)
              generalize o + j * 2 = oj at *
              rcases lt_cases pk qk with ⟨hlt1, hb1, hb2, hb3, hb4, hb5, hb6⟩ | ⟨hlt1, hlt2, hb1, hb2, hb3, hb4, hb5, hb6⟩ | ⟨hlt1, heq⟩
              · have HGk : Hid (good l wd k hkl) := (unhide HG3).2 ⟨unhide HC1, unhide HC2, hlt1⟩
                clear hlt1
                go_wp2_with (first
                  | ((with_reducible refine wpList_alloc_en (by rfl) (by rfl) (some 6) (by rfl) M (unhide HM) ?_); intro W1 HX1 HB1 HS1; simp only [Act.put, List.setIfInBounds_toArray, List.set_cons_zero, List.set_cons_succ])
                  | ((with_reducible refine wpList_store_en (by rfl) (.tmp 6) (.tmp 16) (by rfl) M qk qs (by with_unfolding_all rfl) (by with_unfolding_all rfl) _ _ (unhide HX1) ?_); intro W2 HX2 HE2; simp only [Act.put]; obtain ⟨y0, y1⟩ := en_cells (unhide HX2); have HB2 : Hid (Below M wr W2) := (by rw [unhide HE2]; exact belowRow (unhide HB1) (Nat.le_refl _) _))
                  | (go_at_call 68; refine (unhide HKY _).mono ?_; rintro e W3 ⟨rfl, rfl⟩; have hd2 := unhide HDB _ (unhide HB2))
                  | fail)
                go_quiet (fail)
                go_wp2
                go_roundw
                case rel => exact ⟨k + 1, by omega, by go_num, belowDrewN (unhide HBN _ (unhide HB2)) _, unhide HR (unhide HGk)⟩
                case measure => simp [intOf]; omega
              · have HB : Hid (ok = false) := unhide HE1 fun hg => by rw [((unhide HG3).1 hg).2.2] at hlt1; cases hlt1
                clear hlt1 hlt2
                go_wp2_with (first
                  | ((with_reducible refine wpList_alloc_en (by rfl) (by rfl) (some 6) (by rfl) M (unhide HM) ?_); intro W1 HX1 HB1 HS1; simp only [Act.put, List.setIfInBounds_toArray, List.set_cons_zero, List.set_cons_succ])
                  | ((with_reducible refine wpList_store_en (by rfl) (.tmp 6) (.tmp 16) (by rfl) M qk qs (by with_unfolding_all rfl) (by with_unfolding_all rfl) _ _ (unhide HX1) ?_); intro W2 HX2 HE2; simp only [Act.put]; obtain ⟨y0, y1⟩ := en_cells (unhide HX2); have HB2 : Hid (Below M wr W2) := (by rw [unhide HE2]; exact belowRow (unhide HB1) (Nat.le_refl _) _))
                  | (go_at_call 68; refine (unhide HKY _).mono ?_; rintro e W3 ⟨rfl, rfl⟩; have hd2 := unhide HDB _ (unhide HB2))
                  | fail)
                go_quiet (fail)
                go_wp2
                go_ret
                exact ⟨by rw [unhide HB]; rfl, belowDrewN (unhide HBN _ (unhide HB2)) _⟩
              · have HB : Hid (ok = false) := unhide HE1 fun hg => by rw [((unhide HG3).1 hg).2.2] at hlt1; cases hlt1
                clear hlt1
                have heq := heq.symm
                subst heq
                have hbi := bl_irrefl qk.toList
                go_wp2_with (first
                  | ((with_reducible refine wpList_alloc_en (by rfl) (by rfl) (some 6) (by rfl) M (unhide HM) ?_); intro W1 HX1 HB1 HS1; simp only [Act.put, List.setIfInBounds_toArray, List.set_cons_zero, List.set_cons_succ])
                  | ((with_reducible refine wpList_store_en (by rfl) (.tmp 6) (.tmp 16) (by rfl) M qk qs (by with_unfolding_all rfl) (by with_unfolding_all rfl) _ _ (unhide HX1) ?_); intro W2 HX2 HE2; simp only [Act.put]; obtain ⟨y0, y1⟩ := en_cells (unhide HX2); have HB2 : Hid (Below M wr W2) := (by rw [unhide HE2]; exact belowRow (unhide HB1) (Nat.le_refl _) _))
                  | (go_at_call 68; refine (unhide HKY _).mono ?_; rintro e W3 ⟨rfl, rfl⟩; have hd2 := unhide HDB _ (unhide HB2))
                  | fail)
                go_quiet (fail)
                go_wp2
                go_ret
                exact ⟨by rw [unhide HB]; rfl, belowDrewN (unhide HBN _ (unhide HB2)) _⟩
          · have HB : Hid (ok = false) := unhide HE1 fun hg => hsz ((unhide HG2).1 hg).2.1
            have hs1 : ((qs.size : Int) != wd) = true := by simpa using hsz
            go_wp2_with (first
              | ((with_reducible refine wpList_alloc_en (by rfl) (by rfl) (some 6) (by rfl) M (unhide HM) ?_); intro W1 HX1 HB1 HS1; simp only [Act.put, List.setIfInBounds_toArray, List.set_cons_zero, List.set_cons_succ])
              | ((with_reducible refine wpList_store_en (by rfl) (.tmp 6) (.tmp 16) (by rfl) M qk qs (by with_unfolding_all rfl) (by with_unfolding_all rfl) _ _ (unhide HX1) ?_); intro W2 HX2 HE2; simp only [Act.put]; obtain ⟨y0, y1⟩ := en_cells (unhide HX2); have HB2 : Hid (Below M wr W2) := (by rw [unhide HE2]; exact belowRow (unhide HB1) (Nat.le_refl _) _))
              | (go_at_call 68; refine (unhide HKY _).mono ?_; rintro e W3 ⟨rfl, rfl⟩)
              | fail)
            go_ret
            exact ⟨by rw [unhide HB]; rfl, unhide HBN _ (unhide HB2)⟩
        · have HB : Hid (ok = false) := unhide HE1 fun hg => hky ((unhide HG2).1 hg).1
          rw [keyE_no hky] at HKY
          clear hky
          go_wp2_with (first
            | ((with_reducible refine wpList_alloc_en (by rfl) (by rfl) (some 6) (by rfl) M (unhide HM) ?_); intro W1 HX1 HB1 HS1; simp only [Act.put, List.setIfInBounds_toArray, List.set_cons_zero, List.set_cons_succ])
            | ((with_reducible refine wpList_store_en (by rfl) (.tmp 6) (.tmp 16) (by rfl) M qk qs (by with_unfolding_all rfl) (by with_unfolding_all rfl) _ _ (unhide HX1) ?_); intro W2 HX2 HE2; simp only [Act.put]; obtain ⟨y0, y1⟩ := en_cells (unhide HX2); have HB2 : Hid (Below M wr W2) := (by rw [unhide HE2]; exact belowRow (unhide HB1) (Nat.le_refl _) _))
            | (go_at_call 68; refine (unhide HKY _).mono ?_; rintro e W3 ⟨rfl, rfl⟩)
            | fail)
          go_ret
          exact ⟨by rw [unhide HB]; rfl, unhide HBN _ (unhide HB2)⟩
      · obtain rfl : k = n := by omega
        have hki : ¬ (k : Int) < (k : Int) := by omega
        go_wp2
        go_ret
        refine ⟨?_, (unhide HI).1⟩
        rw [unhide HT fun i hi => (unhide HI).2 i hi (by rw [unhide HLN]; exact hi)]
        rfl
  · rw [widB_false.2 hw] at HW
    rw [show okB l wd = false from okB_false.2 fun ho => hw ho.1]
    clear hw
    go_enter Try.func22, Try.ntmps22
    go_wp2_with (first
      | (go_at_call 67; refine (unhide HW u).mono ?_; rintro e W0 ⟨rfl, rfl⟩)
      | fail)
    go_ret
    exact ⟨rfl, by rw [unhide HN]; exact Below.refl _ _⟩
end Go.Proofs.Ytbahlfpcbplofaa.S
