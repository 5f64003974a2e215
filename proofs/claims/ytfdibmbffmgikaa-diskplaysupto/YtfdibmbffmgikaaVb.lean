/- The document's disk: Write, Read. -/
import Derived.Test.YtfdibmbffmgikaaVa
namespace Go.Proofs.Ytfdibmbffmgikaa
open Go.RowKit Go.Lib

theorem rwInfo : (Try.prog.info? 95).map (fun i => (i.zero, i.size, i.bytes)) = some (some (.agg #[.int .i64 0, .string .empty]), 2, 24) := by kernel_rfl
section
variable {B : Nat} {u u' : World} {M : Nat} {v1 v2 : Value} {d : Dk} {F : List Nat}
set_option maxRecDepth 100000 in
set_option maxHeartbeats 2000000 in
theorem rWriteOk (h : RkX B u M v1 v2 d) (hB : B ≤ u.heap.size) (n : Nat) (hn : n < d.lies.length) (hoff : d.off = false) (hfu : d.fuse ≠ 0) (hm : d.pend.length ≤ 1000000000) (bs : List UInt8) (hbs : bs.length = 1024) :
    Calls Try.prog 48 #[.pointer (some ⟨M, 0, none⟩), .int .i64 (n : Int), .string ⟨bs.toArray⟩] u fun e u' => e = .returned (.int .i64 0) ∧
      ∃ v2', RkX B u' M v1 v2' (d.asked.put n bs) ∧ (v2'.ownBlock = v2.ownBlock ∨ ∃ g, v2'.ownBlock = some g ∧ u.heap.size ≤ g) ∧ UpS u u' (M :: v2.ownBlock.toList) := by
  have c2 := h.c2
  rw [hoff] at c2
  have hth := rThere h (n : Int)
  rw [decide_eq_true ⟨by omega, by omega⟩] at hth
  have hka := rAsk h
  rw [if_neg hfu] at hka
  obtain ⟨S, hS⟩ : ∃ S : ByteArray, S = ⟨bs.toArray⟩ := ⟨_, rfl⟩
  have hss : S.size = 1024 := by rw [hS, size_mk]; exact hbs
  have HH := hide h
  have HP : Hid (n < d.lies.length ∧ d.pend.length ≤ 1000000000 ∧ bs.length = 1024 ∧ B ≤ u.heap.size) := ⟨hn, hm, hbs, hB⟩
  have HSS := hide hS
  rw [← hS]
  clear h hS hn hm hbs hB hoff hfu
  go_enter Try.func48, Try.ntmps48
  go_wp2_with fail
  refine hth.mono ?_
  rintro e w1 ⟨rfl, hw⟩
  obtain rfl := hw.symm
  clear hw hth
  go_wp2_with fail
  refine hka.mono ?_
  rintro e u1 ⟨rfl, hd1, hup1⟩
  clear hka
  have c1 := hd1.c1
  have z1 := hd1.fz 1
  obtain ⟨i0, hi, hz0, hz1, hz2⟩ := info_parts rwInfo
  have hown : (u1.alloc (.cells #[.int .i64 (n : Int), .string S] 95)).ownsRow B 95 2 v2 d.pend.length (cCells d.pend) := by
    have := hd1.pend
    rw [d.asked_pend] at this
    exact ownsRow_keep this fun k hk => Deep.blk_alloc_lt u1 _ k (this.lt k hk).2
  obtain ⟨v', w5, hrun, hown', hgrow, hnew⟩ := run_append_own' (P := Try.prog) (u1.alloc (.cells #[.int .i64 (n : Int), .string S] 95)) B 81 81 95 i0 (.agg #[.int .i64 0, .string .empty]) 2 24 Try.underlying81 hi hz0 hz1 hz2 rfl (by decide) v2 d.pend.length (cCells d.pend) hown ⟨u1.heap.size, 0, none⟩ 1 1 [.int .i64 (n : Int), .string S] rfl (fun j y hy => by
    rw [Addr.add_mid, Nat.zero_add, cell_of_row _ u1.heap.size j _ _ _ (heap_alloc_new u1 _)]
    simpa using hy) (fun y hy => by
    rcases List.mem_cons.1 hy with rfl | hy
    · rfl
    · rw [List.mem_singleton.1 hy]; rfl) (by have := (unhide HP).2.1; simp only [maxLen]; omega) (by have := (unhide HP).2.1; omega) (by have := (unhide HP).2.2.2; have := hup1.size; simp; omega)
  have hMlt := hd1.lt_of
  have hM5 : w5.heap[M]? = u1.heap[M]? := (hgrow.block M (by simp; omega) (fun e => hd1.m2 e.symm)).trans (Deep.blk_alloc_lt u1 _ M hMlt)
  have k1 : w5.cell? ⟨M, 1, none⟩ = some v2 := (World.cell?_of_block (a := ⟨M, 1, none⟩) hM5).trans c1
  have k2 : w5.frozen? ⟨M, 1, none⟩ = false := (World.frozen?_of_block (a := ⟨M, 1, none⟩) hM5).trans z1
  have hvM : v'.ownBlock ≠ some M := fun e => hnew.elim (fun h' => hd1.m2 (h' ▸ e)) (fun ⟨g, h1, h2⟩ => by rw [e] at h1; cases h1; simp at h2; omega)
  have hv1 : ∀ k, v1.ownBlock = some k → v'.ownBlock ≠ some k := fun k hk e => hnew.elim (fun h' => hd1.m12 k hk (h' ▸ e)) (fun ⟨g, h1, h2⟩ => by rw [e] at h1; cases h1; have := (hd1.lies.lt k hk).2; simp at h2; omega)
  have ho : ∀ k, k ≠ M → (w5.setCell ⟨M, 1, none⟩ v').heap[k]? = w5.heap[k]? := fun k hk => Deep.blk_setCell_other w5 ⟨M, 1, none⟩ _ k hk
  have HR : Hid (RkX B (w5.setCell ⟨M, 1, none⟩ v') M v1 v' (d.asked.put n bs)) := by
    refine ⟨by rw [heapCell_same (hM5.trans hd1.blk)]; rfl, ownsRow_keep hd1.lies fun k hk => (ho k (fun e => hd1.m1 (e ▸ hk))).trans ((hgrow.block k (by have := (hd1.lies.lt k hk).2; simp; omega) (fun e => hd1.m12 k hk e.symm)).trans (Deep.blk_alloc_lt u1 _ k (hd1.lies.lt k hk).2)), ?_, hd1.bM, hd1.m1, hvM, hv1, hd1.ok.put (by rw [d.asked_lies]; exact (unhide HP).1) (unhide HP).2.2.1⟩
    show (w5.setCell ⟨M, 1, none⟩ v').ownsRow B 95 2 v' (d.asked.pend ++ [(n, bs)]).length (cCells (d.asked.pend ++ [(n, bs)]))
    have e : cCells (d.pend ++ [(n, bs)]) = cCells d.pend ++ [.int .i64 (n : Int), .string S] := by rw [unhide HSS]; simp [cCells, str]
    rw [d.asked_pend, e, List.length_append]
    exact ownsRow_keep hown' fun k hk => ho k (fun e => hvM (e ▸ hk))
  have HU : Hid (UpS u (w5.setCell ⟨M, 1, none⟩ v') (M :: v2.ownBlock.toList)) := (((hup1.mono (fun x hx => .inl (by simp_all))).alloc _).trans (UpS.ofGrown (F := v2.ownBlock.toList) hgrow (fun k hk => .inl (by simp [hk]))) (fun x hx => .inl (by simp [hx]))).setCell (.inl (by simp)) _
  have HNW : Hid (v'.ownBlock = v2.ownBlock ∨ ∃ g, v'.ownBlock = some g ∧ u.heap.size ≤ g) := hnew.imp id (fun ⟨g, h1, h2⟩ => ⟨g, h1, by have := hup1.size; simp at h2; omega⟩)
  obtain ⟨ao, c, hv2⟩ := ownsRow_len hown
  obtain ⟨ao', c', rfl⟩ := ownsRow_len hown'
  have hone2 : v2.oneCell' = true := by rw [hv2]; rfl
  clear hd1 hup1 hown hown' hgrow hnew hMlt hM5 hvM hv1 ho hv2 z1
  go_wp2_with (at_builtin; refine append_to (by rfl) (.tmp 29) (.tmp 33) 81 81 (by rfl) (some 34) (by rfl) 81 (by rfl) _ _ (by rfl) (by rfl) _ _ hrun ?_; simp only [Act.put, List.setIfInBounds_toArray, List.set_cons_zero, List.set_cons_succ])
  go_ret
  exact ⟨rfl, _, unhide HR, unhide HNW, unhide HU⟩
theorem rWriteBad (h : RkX B u M v1 v2 d) (x : Int) (S : ByteArray) (c : Int) (hc : (d.off = true ∧ c = 40) ∨ (d.off = false ∧ (¬ (0 ≤ x ∧ x < (d.lies.length : Int)) ∨ S.size ≠ 1024) ∧ c = 1)) :
    Calls Try.prog 48 #[.pointer (some ⟨M, 0, none⟩), .int .i64 x, .string S] u fun e u' => e = .returned (.int .i64 c) ∧ u' = u := by
  have c2 := h.c2
  have hth := rThere h x
  clear h
  rcases hc with ⟨ho, rfl⟩ | ⟨ho, hx, rfl⟩
  · rw [ho] at c2
    clear hth
    go_enter Try.func48, Try.ntmps48
    go_wp2
    go_ret
    exact ⟨rfl, rfl⟩
  · rw [ho] at c2
    by_cases hr : 0 ≤ x ∧ x < (d.lies.length : Int)
    · rw [decide_eq_true hr] at hth
      have hs : ¬ (S.size : Int) = 1024 := by have := hx.resolve_left (fun h => h hr); omega
      clear hx hr
      go_enter Try.func48, Try.ntmps48
      go_wp2_with fail
      refine hth.mono ?_
      rintro e w1 ⟨rfl, hw⟩
      obtain rfl := hw.symm
      clear hw hth
      go_wp2
      go_ret
      exact ⟨rfl, rfl⟩
    · rw [decide_eq_false hr] at hth
      clear hx hr
      go_enter Try.func48, Try.ntmps48
      go_wp2_with fail
      refine hth.mono ?_
      rintro e w1 ⟨rfl, hw⟩
      obtain rfl := hw.symm
      clear hw hth
      go_wp2
      go_ret
      exact ⟨rfl, rfl⟩
theorem rWriteFuse (h : RkX B u M v1 v2 d) (x : Int) (S : ByteArray) (ho : d.off = false) (hr : 0 ≤ x ∧ x < (d.lies.length : Int)) (hs : S.size = 1024) (hf : d.fuse = 0) :
    Calls Try.prog 48 #[.pointer (some ⟨M, 0, none⟩), .int .i64 x, .string S] u fun e u' => e = .returned (.int .i64 40) ∧ RkX B u' M v1 v2 d.asked ∧ UpS u u' [M] := by
  have c2 := h.c2
  rw [ho] at c2
  have hth := rThere h x
  rw [decide_eq_true hr] at hth
  have hka := rAsk h
  rw [if_pos hf] at hka
  clear h hr
  go_enter Try.func48, Try.ntmps48
  go_wp2_with fail
  refine hth.mono ?_
  rintro e w1 ⟨rfl, hw⟩
  obtain rfl := hw.symm
  clear hw hth
  go_wp2_with fail
  refine hka.mono ?_
  rintro e u1 ⟨rfl, hd1, hup1⟩
  have HW := hide (And.intro hd1 hup1)
  clear hka hd1 hup1
  go_wp2
  go_ret
  exact ⟨rfl, unhide HW⟩
theorem rWrite (h : Rk B u M F d) (hB : B ≤ u.heap.size) (x : Int) (bs : List UInt8) (hm : d.pend.length ≤ 1000000000) :
    Calls Try.prog 48 #[.pointer (some ⟨M, 0, none⟩), .int .i64 x, .string ⟨bs.toArray⟩] u fun e u' => e = .returned (.int .i64 (d.write x bs).1) ∧ ∃ F', Rk B u' M F' (d.write x bs).2 ∧ UpS u u' F ∧ ∀ k ∈ F', k ∈ F ∨ u.heap.size ≤ k := by
  obtain ⟨v1, v2, rfl, h⟩ := h
  cases ho : d.off
  · by_cases hr : 0 ≤ x ∧ x < (d.lies.length : Int)
    · by_cases hb : bs.length = 1024
      · by_cases hf : d.fuse = 0
        · rw [Dk.write_blow ho hr.1 hr.2 hb hf]
          exact (rWriteFuse h x _ ho hr (by rw [size_mk]; exact hb) hf).mono fun e u' ⟨he, hd, hu⟩ => ⟨he, _, ⟨v1, v2, rfl, hd⟩, hu.mono (fun y hy => .inl (by simp_all)), fun k hk => .inl hk⟩
        · rw [Dk.write_done ho hr.1 hr.2 hb hf]
          obtain ⟨n, rfl⟩ := Int.eq_ofNat_of_zero_le hr.1
          refine (rWriteOk h hB n (by omega) ho hf hm bs hb).mono fun e u' ⟨he, v2', hd, hv, hu⟩ => ⟨he, _, ⟨v1, v2', rfl, hd⟩, hu.mono (fun y hy => .inl (by rcases List.mem_cons.1 hy with h' | h' <;> simp [h'])), fun k hk => ?_⟩
          rcases List.mem_cons.1 hk with h' | hk
          · exact .inl (by simp [h'])
          · rcases List.mem_append.1 hk with hk | hk
            · exact .inl (by simp [hk])
            · have hk := mem_toList hk
              rcases hv with hv | ⟨q, hq, hq2⟩
              · exact .inl (by rw [hv] at hk; simp [hk])
              · rw [hk] at hq; cases hq; exact .inr hq2
      · rw [Dk.write_len ho hr.1 hr.2 hb]
        exact (rWriteBad h x _ 1 (.inr ⟨ho, .inr (by rw [size_mk]; exact hb), rfl⟩)).mono fun e u' ⟨he, hu⟩ => ⟨he, _, ⟨v1, v2, rfl, hu ▸ h⟩, hu ▸ UpS.refl _ _, fun k hk => .inl hk⟩
    · rw [Dk.write_out ho (by omega)]
      exact (rWriteBad h x _ 1 (.inr ⟨ho, .inl hr, rfl⟩)).mono fun e u' ⟨he, hu⟩ => ⟨he, _, ⟨v1, v2, rfl, hu ▸ h⟩, hu ▸ UpS.refl _ _, fun k hk => .inl hk⟩
  · rw [Dk.write_off ho]
    exact (rWriteBad h x _ 40 (.inl ⟨ho, rfl⟩)).mono fun e u' ⟨he, hu⟩ => ⟨he, _, ⟨v1, v2, rfl, hu ▸ h⟩, hu ▸ UpS.refl _ _, fun k hk => .inl hk⟩
def Dk.readS (d : Dk) (x : Int) : ByteArray := if d.refused x = 0 then ⟨(d.page x.toNat).toArray⟩ else .empty
theorem ixRefW (g n c i : Nat) (hi : i < n) (W : World) : (Instr.indexAt 81 (.slice (some ⟨g, 0, none⟩) n c) (.int .i64 (i : Int))).run Try.prog W = .ok (.pointer (some ⟨g, i * 2, none⟩)) W := by
  have he : Try.prog.elem 81 = 95 := by kernel_rfl
  rw [run_indexAt_slice W 81 _ _ _ _ _ (by rw [he]; kernel_rfl), if_pos ⟨by omega, by omega⟩, he, size_of (n := 2) (by kernel_rfl)]
  simp only [Result.andThen_ok, Int.toNat_natCast, Addr.add_mid, Nat.zero_add]
set_option maxRecDepth 100000 in
set_option maxHeartbeats 1000000 in
theorem rReadOk (h : RkX B u M v1 v2 d) (n : Nat) (hn : n < d.lies.length) (hoff : d.off = false) (hm : d.pend.length ≤ 1000000000) :
    Calls Try.prog 49 #[.pointer (some ⟨M, 0, none⟩), .int .i64 (n : Int)] u fun e u' => e = .returned (.tuple #[.string ⟨(d.page n).toArray⟩, .int .i64 0]) ∧ u' = u := by
  have c2 := h.c2
  rw [hoff] at c2
  have c0 := h.c0
  have c1 := h.c1
  have hth := rThere h (n : Int)
  rw [decide_eq_true ⟨by omega, by omega⟩] at hth
  obtain ⟨g, c, hv1, hl, _⟩ := h.lie_at n hn
  obtain ⟨ao2, c2', hv2⟩ := ownsRow_len h.pend
  have HH := hide h
  obtain ⟨P, hP⟩ : ∃ P, P = d.lies.length := ⟨_, rfl⟩
  obtain ⟨q, hq⟩ : ∃ q, q = d.pend.length := ⟨_, rfl⟩
  have hix := ixTexts g 0 P c n (by omega)
  rw [Nat.zero_add] at hix
  subst hv1 hv2
  rw [← hP] at c0
  rw [← hq] at c1
  have hni : (n : Int) < (P : Int) := by omega
  have hqi : (q : Int) ≤ 1000000000 := by omega
  have HQ := hide hq
  obtain ⟨S0, hS0⟩ : ∃ z : ByteArray, str (d.lies.getD n []) = .string z := ⟨_, rfl⟩
  rw [hS0] at hl
  have HS0 : Hid (S0 = ⟨(newest (d.lies.getD n []) (d.pend.take 0) n).toArray⟩) := by
    have : (⟨(d.lies.getD n []).toArray⟩ : ByteArray) = S0 := by simpa [str] using hS0
    exact this.symm
  clear h hP hq hS0
  go_enter Try.func49, Try.ntmps49
  go_wp2_with fail
  refine hth.mono ?_
  rintro e w1 ⟨rfl, hw⟩
  obtain rfl := hw.symm
  clear hw hth
  go_wp2
  go_loop [6, 7] (fun vs vi => ∃ (i : Nat) (S : ByteArray), i ≤ q ∧ vi = .int .i64 i ∧ vs = .string S ∧ Hid (S = ⟨(newest (d.lies.getD n []) (d.pend.take i) n).toArray⟩)) (fun _ vi => q - (intOf vi).toNat)
  case atStart => exact ⟨0, S0, Nat.zero_le _, rfl, rfl, HS0⟩
  case round =>
    clear HS0 hl
    obtain ⟨i, S, hi, rfl, rfl, HI⟩ := hrel
    by_cases hlt : i < q
    · have hii : (i : Int) < (q : Int) := by omega
      have hil : i < d.pend.length := by rw [← unhide HQ]; exact hlt
      obtain ⟨g2, c3, hv2, eN, eS⟩ := own_cells (unhide HH).pend i hil
      rw [← unhide HQ] at hv2
      obtain ⟨rfl, rfl⟩ : ao2 = some ⟨g2, 0, none⟩ ∧ c2' = c3 := by simpa using hv2
      have hix2 := ixRefW g2 q c2' i hlt
      have e : d.pend.take (i + 1) = d.pend.take i ++ [d.pend[i]] := by rw [List.take_add_one, List.getElem?_eq_getElem hil]; rfl
      have HNX : Hid (∀ S', (d.pend[i].1 = n → S' = ⟨(d.pend[i].2).toArray⟩) → (d.pend[i].1 ≠ n → S' = S) → S' = ⟨(newest (d.lies.getD n []) (d.pend.take (i + 1)) n).toArray⟩) := fun S' h1 h2 => by
        rw [e, newest_append]
        simp only [newest, List.foldl_cons, List.foldl_nil]
        by_cases hpn : d.pend[i].1 = n
        · rw [if_pos hpn, h1 hpn]
        · rw [if_neg hpn, h2 hpn, unhide HI]
          rfl
      obtain ⟨SP, hSP⟩ : ∃ z : ByteArray, z = ⟨(d.pend[i].2).toArray⟩ := ⟨_, rfl⟩
      have eS' : u.cell? ⟨g2, i * 2 + 1, none⟩ = some (.string SP) := by rw [hSP]; exact eS
      by_cases hpn : d.pend[i].1 = n
      · rw [hpn] at eN
        have HN2 := hide (unhide HNX SP (fun _ => hSP) (fun h => absurd hpn h))
        clear HNX hSP eS hv2 e hpn HI
        go_wp2
        go_round
        case rel => exact ⟨i + 1, SP, by omega, by go_num, rfl, HN2⟩
        case measure => simp [intOf]; omega
      · have hpi : ¬ (d.pend[i].1 : Int) = (n : Int) := by omega
        have HN2 := hide (unhide HNX S (fun h => absurd h hpn) (fun _ => rfl))
        generalize d.pend[i].1 = pn at *
        clear HNX hSP eS hv2 e hpn HI
        go_wp2
        go_round
        case rel => exact ⟨i + 1, S, by omega, by go_num, rfl, HN2⟩
        case measure => simp [intOf]; omega
    · have hii : q = i := by omega
      subst hii
      go_wp2
      go_ret2
      have hf := unhide HI
      rw [unhide HQ, List.take_length] at hf
      refine ⟨?_, rfl⟩
      rw [Dk.page, ← hf]
      rfl
theorem rReadBad (h : RkX B u M v1 v2 d) (x : Int) (c : Int) (hc : d.refused x = c) (h0 : c ≠ 0) :
    Calls Try.prog 49 #[.pointer (some ⟨M, 0, none⟩), .int .i64 x] u fun e u' => e = .returned (.tuple #[.string .empty, .int .i64 c]) ∧ u' = u := by
  have c2 := h.c2
  have hth := rThere h x
  clear h
  unfold Dk.refused at hc
  cases ho : d.off <;> rw [ho] at hc c2
  · rw [if_neg (by decide)] at hc
    by_cases hr : 0 ≤ x ∧ x < (d.lies.length : Int)
    · rw [if_pos hr] at hc; exact absurd hc.symm h0
    · rw [if_neg hr] at hc
      rw [decide_eq_false hr] at hth
      subst hc
      clear hr
      go_enter Try.func49, Try.ntmps49
      go_wp2_with fail
      refine hth.mono ?_
      rintro e w1 ⟨rfl, hw⟩
      obtain rfl := hw.symm
      clear hw hth
      go_wp2
      go_ret2
      exact ⟨rfl, rfl⟩
  · rw [if_pos rfl] at hc
    subst hc
    clear hth
    go_enter Try.func49, Try.ntmps49
    go_wp2
    go_ret2
    exact ⟨rfl, rfl⟩
end
end Go.Proofs.Ytfdibmbffmgikaa
