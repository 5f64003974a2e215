/- The disk: what is pending lands. -/
import Derived.Test.YtfdibmbffmgikaaKg
namespace Go.Proofs.Ytfdibmbffmgikaa
open Go.RowKit Go.Lib

theorem wp_call_value {P : Program} {o : Oper} {a : Act} {w : World} {K : Act → World → Prop} {Q : Exit → Act → World → Prop} (f x : Operand) (ats : Array TypeId) (ho : o.op = .call { callee := .value f, args := #[x], argTypes := ats })
    (F : FuncId) (caps : Array Value) (hf : a.eval f = .func (.func F) #[] caps) (xv : Value) (hx : a.eval x = xv) (hent : ∀ args (w : World), (callFunc F args).run P w = .ok (.enter F args) w) (d : Option Tmp) (hd : o.dst = d) (v : Value) (R : World → Prop)
    (hc : Calls P F (#[xv] ++ caps) w fun e w' => e = .returned v ∧ R w') (h : ∀ w', R w' → K (a.put d v) w') : o.wp P a w K Q := by
  subst hd
  have hrun : (execOp a.eval o).run P w = .ok (.enter F (#[xv] ++ caps)) w := by
    unfold execOp
    simp only [ho, resolve, Deferred.ofValue, hf, invoke, Sem.run_bind, Sem.run_pure, Result.andThen_ok, List.map_toArray, List.map_cons, List.map_nil, hx]
    simpa using hent (#[xv] ++ caps) w
  unfold Oper.wp
  rw [hrun, Oper.upon_enter]
  refine hc.mono fun e w'' hh => ?_
  obtain ⟨rfl, hr⟩ := hh
  exact h _ hr
section
variable {B : Nat} {u : World} {D L T : Nat} {v : Value} {f : List Nat} {d : Dk}
/-- behind the first k -/
def Dk.mid (d : Dk) (s : Nat → Nat) (k : Nat) : Dk := ⟨d.landed s k, d.pend, d.off, d.fuse⟩
theorem Dk.Ok.mid (h : d.Ok) (s : Nat → Nat) (k : Nat) (hk : k ≤ d.pend.length) : (d.mid s k).Ok :=
  ⟨by show 0 < (d.landed s _).length; rw [d.landed_length]; exact h.pos, by show (d.landed s _).length ≤ _; rw [d.landed_length]; exact h.max, h.landed_len s _ hk, by
    intro q hq
    show q.1 < (d.landed s k).length ∧ _
    rw [d.landed_length]
    exact h.pg q hq, h.f0, h.f1⟩
theorem landCopy {s : Nat → Nat} {g c : Nat} {k0 : Nat} (h : DskM B u D L T (.slice (some ⟨g, 0, none⟩) d.pend.length c) f (d.mid s k0)) (k : Nat) (hk : k < d.pend.length) (m : Nat) (hm : m ≤ 1024) (pn : Nat) (hpn : pn = d.pend[k].1) :
    (Builtin.copy_ #[28, 28] 3 #[.slice (some ⟨L, pn * 1024, none⟩) m 1024, .slice (some ⟨g, k * 1025 + 1, none⟩) 1024 1024]).run Try.prog u = .ok (goInt m) (u.setRow L (img ((d.landed s k0).set d.pend[k].1 (d.pend[k].2.take m ++ ((d.landed s k0).getD d.pend[k].1 []).drop m)).flatten)) := by
  subst hpn
  obtain ⟨g', c', h1, _, _, h2⟩ := h.write_at k hk
  obtain ⟨rfl, _, _⟩ : g = g' ∧ d.pend.length = (d.mid s k0).pend.length ∧ c = c' := by simpa using h1
  have hok := h.ok.pg d.pend[k] (List.getElem_mem hk)
  have hlen := hok.2
  have hn : d.pend[k].1 < (d.landed s k0).length := hok.1
  have hfl := flat_len (d.landed s k0) h.ok.len
  have hcl : (byteCells (d.pend[k].2.take m)).length = m := by rw [byteCells_length, List.length_take, hlen]; omega
  have := run_copy_row (P := Try.prog) u 28 28 3 5 L (d.pend[k].1 * 1024) m 1024 ⟨g, k * 1025 + 1, none⟩ 1024 1024 _ _ (byteCells (d.pend[k].2.take m)) Try.underlying28 u8Info h.lies (by rw [hcl]; exact (Nat.min_eq_right hm).symm) (fun j x hx => by
    rw [Addr.add_mid]
    refine h2 j x ?_
    have hj := (List.getElem?_eq_some_iff.1 hx).1
    rw [hcl] at hj
    rw [← hx]
    show (byteCells d.pend[k].2)[j]? = _
    simp only [byteCells, List.map_take]
    rw [List.getElem?_take_of_lt hj]) (by rw [hcl, img_size]; show _ ≤ (d.landed s k0).flatten.length; rw [hfl]; omega) (byteCells_one _)
  rw [this, hcl]
  congr 3
  rw [← flat_set (d.landed s k0) h.ok.len d.pend[k].1 hn (d.pend[k].2.take m) m hm]
  show (byteCells (d.landed s k0).flatten).take _ ++ byteCells _ ++ (byteCells (d.landed s k0).flatten).drop _ = byteCells _
  simp only [byteCells, List.map_append, List.map_take, List.map_drop]
theorem DskM.land {s : Nat → Nat} {k : Nat} (h : DskM B u D L T v f (d.mid s k)) (hk : k < d.pend.length) (hok : d.Ok) :
    DskM B (u.setRow L (img ((d.landed s k).set d.pend[k].1 (d.pend[k].2.take (s k) ++ ((d.landed s k).getD d.pend[k].1 []).drop (s k))).flatten)) D L T v f (d.mid s (k + 1)) := by
  have hs : (d.mid s (k + 1)).lies = (d.landed s k).set d.pend[k].1 (d.pend[k].2.take (s k) ++ ((d.landed s k).getD d.pend[k].1 []).drop (s k)) := by
    show d.landed s (k + 1) = _
    simp only [Dk.landed]
    rw [List.getD_eq_getElem?_getD, List.getElem?_eq_getElem hk, Option.getD_some]
  have hll : (d.mid s (k + 1)).lies.length = (d.mid s k).lies.length := by show (d.landed s _).length = (d.landed s _).length; rw [d.landed_length, d.landed_length]
  rw [← hs]
  have ho : ∀ q, q ≠ L → (u.setRow L (img (d.mid s (k + 1)).lies.flatten)).heap[q]? = u.heap[q]? := fun q hq => heapRow_other u L q _ hq
  exact ⟨by rw [ho D h.dl, h.blk, hll]; rfl, heapRow_same h.lies _, (ho T (Ne.symm h.lt)).trans h.last, ownsRow_keep h.pend fun q hq => ho q (fun e => h.vl (e ▸ hq)), by rw [hll]; exact h.flen, h.bD, h.bL, h.bT, h.dl, h.dt, h.lt, h.vd, h.vl, h.vt, hok.mid s (k + 1) hk⟩
theorem DskM.clear (h : DskM B u D L T v f d) (n : Nat) : DskM B (u.setCell ⟨T, n, none⟩ (.int .i64 0)) D L T v (f.set n 0) d := by
  have ho : ∀ k, k ≠ T → (u.setCell ⟨T, n, none⟩ (.int .i64 0)).heap[k]? = u.heap[k]? := fun k hk => Deep.blk_setCell_other u ⟨T, n, none⟩ _ k hk
  exact { h with
    blk := (ho D h.dt).trans h.blk
    lies := (ho L h.lt).trans h.lies
    last := by rw [heapCell_same h.last]; congr 2; simp [nums, List.map_set]
    pend := ownsRow_keep h.pend fun k hk => ho k (fun e => h.vt (e ▸ hk))
    flen := by rw [List.length_set]; exact h.flen }
theorem DskM.settled {s : Nat → Nat} (h : DskM B u D L T v f (d.mid s d.pend.length)) (hz : ∀ q x : Nat, f[q]? = some x → x = 0) : DskX B (u.setCell ⟨D, 1, none⟩ (.slice none 0 0)) D L T (.slice none 0 0) (List.replicate d.lies.length 0) (d.settle s) := by
  have ho : ∀ k, k ≠ D → (u.setCell ⟨D, 1, none⟩ (.slice none 0 0)).heap[k]? = u.heap[k]? := fun k hk => Deep.blk_setCell_other u ⟨D, 1, none⟩ _ k hk
  have hfl : f.length = d.lies.length := by rw [h.flen]; exact d.landed_length s _
  have hf : f = List.replicate d.lies.length 0 := by
    rw [List.eq_replicate_iff]
    refine ⟨hfl, fun x hx => ?_⟩
    obtain ⟨q, hq, hq2⟩ := List.getElem_of_mem hx
    exact hz q x (by rw [← hq2]; exact List.getElem?_eq_getElem hq)
  refine ⟨⟨by rw [heapCell_same h.blk]; rfl, (ho L (Ne.symm h.dl)).trans h.lies, by rw [← hf]; exact (ho T (Ne.symm h.dt)).trans h.last, World.ownsRow_nil _ _ _ _, by rw [← hf]; exact h.flen, h.bD, h.bL, h.bT, h.dl, h.dt, h.lt, by simp [Value.ownBlock], by simp [Value.ownBlock], by simp [Value.ownBlock], ?_⟩, fun k x hx => ?_⟩
  · have := h.ok
    exact ⟨this.pos, this.max, this.len, (fun _ hq => by cases hq), this.f0, this.f1⟩
  · have := List.mem_of_getElem? hx
    rw [(List.mem_replicate.1 this).2]
    exact Lst.nil _
set_option maxRecDepth 100000 in
set_option maxHeartbeats 2000000 in
theorem kSettle (Fn : FuncId) (caps : Array Value) (s : Nat → Nat) (hs : ∀ i, s i ≤ 1024) (hent : ∀ args (w : World), (callFunc Fn args).run Try.prog w = .ok (.enter Fn args) w) (h : DskX B u D L T v f d) (hm : d.pend.length ≤ 1000000000)
    (hruns : ∀ (i : Nat) (W : World), UpS u W [D, L, T] → Calls Try.prog Fn (#[.int .i64 (i : Int)] ++ caps) W fun e W' => e = .returned (.int .i64 (s i : Int)) ∧ Below W.heap.size W W') :
    Calls Try.prog 34 #[.pointer (some ⟨D, 0, none⟩), .func (.func Fn) #[] caps] u fun e u' => e = .returned (.tuple #[]) ∧ DskX B u' D L T (.slice none 0 0) (List.replicate d.lies.length 0) (d.settle s) ∧ UpS u u' [D, L, T] := by
  obtain ⟨ao, c, hv⟩ := ownsRow_len h.pend
  have h1 := h.c1
  rw [hv] at h1
  have HH := hide h
  have hlst : Hid (∀ q x, f[q]? = some x → x = 0 ∨ ∃ j, 0 ≤ j ∧ ∃ hj : j < d.pend.length, d.pend[j].1 = q) := by
    intro q x hx
    rcases h.lst q x hx with ⟨h1, _⟩ | ⟨i, b, h1, h2, _⟩
    · exact .inl h1
    · have hi := (List.getElem?_eq_some_iff.1 h2).1
      exact .inr ⟨i, Nat.zero_le _, hi, by rw [(List.getElem?_eq_some_iff.1 h2).2]⟩
  have HV := hide hv
  have HF0 := hide h.flen
  clear h hv
  obtain ⟨m, hmm⟩ : ∃ m, m = d.pend.length := ⟨_, rfl⟩
  rw [← hmm] at h1 hm
  have HM := hide hmm
  have hmi : (m : Int) ≤ 1000000000 := by omega
  clear hmm
  go_enter Try.func34, Try.ntmps34
  go_wp2
  go_loopw [11] (fun i wr => ∃ (k : Nat) (f' : List Nat), k ≤ m ∧ i = .int .i64 k ∧ Hid (DskM B wr D L T v f' (d.mid s k) ∧ UpS u wr [D, L, T] ∧ ∀ q x, f'[q]? = some x → x = 0 ∨ ∃ j, k ≤ j ∧ ∃ hj : j < d.pend.length, d.pend[j].1 = q)) (fun i _ => m - (intOf i).toNat)
  case atStart => exact ⟨0, f, Nat.zero_le _, rfl, (unhide HH).toDskM, UpS.refl _ _, unhide hlst⟩
  case round =>
    obtain ⟨k, f', hk, rfl, HI⟩ := hrel
    clear h1 hlst
    by_cases hlt : k < m
    · have hkm : k < d.pend.length := by rw [← unhide HM]; exact hlt
      have hki : (k : Int) < (m : Int) := by omega
      obtain ⟨hD, hU, hz⟩ := unhide HI
      obtain ⟨g, c', hvg, hcc, hw1, hw2⟩ := hD.write_at k hkm
      have hpg := hD.ok.pg d.pend[k] (List.getElem_mem hkm)
      obtain ⟨pn, hpn⟩ : ∃ pn, pn = d.pend[k].1 := ⟨_, rfl⟩
      have e1 : v = .slice (some ⟨g, 0, none⟩) m c' := by rw [hvg, unhide HM]; rfl
      subst e1
      obtain ⟨n, hn⟩ : ∃ n, n = d.lies.length := ⟨_, rfl⟩
      have hnl : (d.mid s k).lies.length = n := by rw [hn]; exact d.landed_length s k
      have c0 := hD.c0
      have c1 := hD.c1
      have c2 := hD.c2
      rw [hnl] at c0 c2
      have hw1' : wr.cell? ⟨g, k * 1025, none⟩ = some (.int .i64 (pn : Int)) := by rw [hpn]; exact hw1
      have hpn2 : pn < n := by rw [hpn, ← hnl]; exact hpg.1
      have hix := ixPages L n n pn hpn2
      have hiw := ixWrites g m c' k hlt
      have hsp := slPage g (k * 1025 + 1)
      have hst := slPageTo L (pn * 1024) (s k) (hs k)
      have HST : Hid (∀ W0 : World, (W0.cell? ⟨D, 0, none⟩ = some (.slice (some ⟨L, 0, none⟩) n n) ∧ W0.cell? ⟨g, k * 1025, none⟩ = some (.int .i64 (pn : Int)) ∧ DskM B W0 D L T (.slice (some ⟨g, 0, none⟩) d.pend.length c') f' (d.mid s k) ∧ UpS u W0 [D, L, T]) → ∀ W1 : World, Below W0.heap.size W0 W1 →
          (W1.cell? ⟨D, 0, none⟩ = some (.slice (some ⟨L, 0, none⟩) n n) ∧ W1.cell? ⟨g, k * 1025, none⟩ = some (.int .i64 (pn : Int)) ∧ DskM B W1 D L T (.slice (some ⟨g, 0, none⟩) d.pend.length c') f' (d.mid s k) ∧ UpS u W1 [D, L, T])) := by
        rintro W0 ⟨a1, a2, a3, a4⟩ W1 hb
        exact ⟨(hb.cell (World.block_lt_of_cell? W0 _ a1)).trans a1, (hb.cell (World.block_lt_of_cell? W0 _ a2)).trans a2, a3.below hb, a4.trans (UpS.ofBelow [] hb) (fun x hx => by cases hx)⟩
      have HS0 : Hid (wr.drew.cell? ⟨D, 0, none⟩ = some (.slice (some ⟨L, 0, none⟩) n n) ∧ wr.drew.cell? ⟨g, k * 1025, none⟩ = some (.int .i64 (pn : Int)) ∧ DskM B wr.drew D L T (.slice (some ⟨g, 0, none⟩) d.pend.length c') f' (d.mid s k) ∧ UpS u wr.drew [D, L, T]) := ⟨c0, hw1', by rw [← unhide HM]; exact hD.keep fun _ _ => rfl, hU.drew⟩
      have HZ := hide hz
      have HPN := hide hpn
      have HNN := hide (And.intro hn hnl)
      clear hD hU hz HI hw1 hw2 hvg hpg hcc c2 hpn hn hnl
      go_wp2
      refine wp_region_last (fun u' => u'.cell? ⟨D, 0, none⟩ = some (.slice (some ⟨L, 0, none⟩) n n) ∧ u'.cell? ⟨g, k * 1025, none⟩ = some (.int .i64 (pn : Int)) ∧ DskM B u' D L T (.slice (some ⟨g, 0, none⟩) d.pend.length c') f' (d.mid s k) ∧ UpS u u' [D, L, T]) 17 (by kernel_rfl) (unhide HS0) fun hS => ?_
      refine wpAnyL_take 0 20 (.pointer (some ⟨D, 0, none⟩)) [1, 2, 3, 8, 12] rfl rfl (by kernel_rfl) (by kernel_rfl) (by kernel_rfl) (by kernel_rfl) (by kernel_rfl) (fun _ _ _ h => h) (by rfl) (fun u _ => by go_simp) hS ?_
      simp only [Act.put, List.setIfInBounds_toArray, List.set_cons_zero, List.set_cons_succ]
      refine wpAnyL_take 1 21 (.pointer (some ⟨D, 0, none⟩)) [2, 3, 8, 12] rfl rfl (by kernel_rfl) (by kernel_rfl) (by kernel_rfl) (by kernel_rfl) (by kernel_rfl) (fun _ _ _ h => h) (by rfl) (fun u _ => by go_simp) hS ?_
      simp only [Act.put, List.setIfInBounds_toArray, List.set_cons_zero, List.set_cons_succ]
      refine wpAnyL_take 2 22 (.pointer (some ⟨D, 0, none⟩)) [3, 8, 12] rfl rfl (by kernel_rfl) (by kernel_rfl) (by kernel_rfl) (by kernel_rfl) (by kernel_rfl) (fun _ _ _ h => h) (by rfl) (fun u _ => by go_simp) hS ?_
      simp only [Act.put, List.setIfInBounds_toArray, List.set_cons_zero, List.set_cons_succ]
      refine wpAnyL_take 3 23 (.slice (some ⟨L, 0, none⟩) n n) [8, 12] rfl rfl (by kernel_rfl) (by kernel_rfl) (by kernel_rfl) (by kernel_rfl) (by kernel_rfl) (fun _ _ _ h => h) (by rfl) (fun u hu => by obtain ⟨s1, s2, s3, s4⟩ := hu; go_simp) hS ?_
      simp only [Act.put, List.setIfInBounds_toArray, List.set_cons_zero, List.set_cons_succ]
      refine wpAnyL_take 4 24 (.pointer (some ⟨g, k * 1025, none⟩)) [5, 6, 7, 8, 12] rfl rfl (by kernel_rfl) (by kernel_rfl) (by kernel_rfl) (by kernel_rfl) (by kernel_rfl) (fun _ _ _ h => h) (by rfl) (fun u _ => by go_simp) hS ?_
      simp only [Act.put, List.setIfInBounds_toArray, List.set_cons_zero, List.set_cons_succ]
      refine wpAnyL_take 5 25 (.pointer (some ⟨g, k * 1025, none⟩)) [6, 7, 8, 12] rfl rfl (by kernel_rfl) (by kernel_rfl) (by kernel_rfl) (by kernel_rfl) (by kernel_rfl) (fun _ _ _ h => h) (by rfl) (fun u _ => by go_simp) hS ?_
      simp only [Act.put, List.setIfInBounds_toArray, List.set_cons_zero, List.set_cons_succ]
      refine wpAnyL_take 6 26 (.pointer (some ⟨g, k * 1025, none⟩)) [7, 8, 12] rfl rfl (by kernel_rfl) (by kernel_rfl) (by kernel_rfl) (by kernel_rfl) (by kernel_rfl) (fun _ _ _ h => h) (by rfl) (fun u _ => by go_simp) hS ?_
      simp only [Act.put, List.setIfInBounds_toArray, List.set_cons_zero, List.set_cons_succ]
      refine wpAnyL_take 7 27 (.int .i64 (pn : Int)) [8, 12] rfl rfl (by kernel_rfl) (by kernel_rfl) (by kernel_rfl) (by kernel_rfl) (by kernel_rfl) (fun _ _ _ h => h) (by rfl) (fun u hu => by obtain ⟨s1, s2, s3, s4⟩ := hu; go_simp) hS ?_
      simp only [Act.put, List.setIfInBounds_toArray, List.set_cons_zero, List.set_cons_succ]
      refine wpAnyL_take 8 28 (.pointer (some ⟨L, pn * 1024, none⟩)) [12] rfl rfl (by kernel_rfl) (by kernel_rfl) (by kernel_rfl) (by kernel_rfl) (by kernel_rfl) (fun _ _ _ h => h) (by rfl) (fun u _ => by go_simp) hS ?_
      simp only [Act.put, List.setIfInBounds_toArray, List.set_cons_zero, List.set_cons_succ]
      refine wpAnyL_take 9 29 (.func (.func Fn) #[] caps) [11] rfl rfl (by kernel_rfl) (by kernel_rfl) (by kernel_rfl) (by kernel_rfl) (by kernel_rfl) (fun _ _ _ h => h) (by rfl) (fun u _ => by go_simp) hS ?_
      simp only [Act.put, List.setIfInBounds_toArray, List.set_cons_zero, List.set_cons_succ]
      refine wpAnyL_take 10 30 (.int .i64 (k : Int)) [11] rfl rfl (by kernel_rfl) (by kernel_rfl) (by kernel_rfl) (by kernel_rfl) (by kernel_rfl) (fun _ _ _ h => h) (by rfl) (fun u _ => by go_simp) hS ?_
      simp only [Act.put, List.setIfInBounds_toArray, List.set_cons_zero, List.set_cons_succ]
      refine wpAnyL_take 13 33 (.pointer (some ⟨g, k * 1025, none⟩)) [14, 15, 16] rfl rfl (by kernel_rfl) (by kernel_rfl) (by kernel_rfl) (by kernel_rfl) (by kernel_rfl) (fun _ _ _ h => h) (by rfl) (fun u _ => by go_simp) hS ?_
      simp only [Act.put, List.setIfInBounds_toArray, List.set_cons_zero, List.set_cons_succ]
      refine wpAnyL_take 14 34 (.pointer (some ⟨g, k * 1025, none⟩)) [15, 16] rfl rfl (by kernel_rfl) (by kernel_rfl) (by kernel_rfl) (by kernel_rfl) (by kernel_rfl) (fun _ _ _ h => h) (by rfl) (fun u _ => by go_simp) hS ?_
      simp only [Act.put, List.setIfInBounds_toArray, List.set_cons_zero, List.set_cons_succ]
      refine wpAnyL_take 15 35 (.pointer (some ⟨g, k * 1025 + 1, none⟩)) [16] rfl rfl (by kernel_rfl) (by kernel_rfl) (by kernel_rfl) (by kernel_rfl) (by kernel_rfl) (fun _ _ _ h => h) (by rfl) (fun u _ => by go_simp) hS ?_
      simp only [Act.put, List.setIfInBounds_toArray, List.set_cons_zero, List.set_cons_succ]
      refine wpAnyL_take 16 36 (.slice (some ⟨g, k * 1025 + 1, none⟩) 1024 1024) [] rfl rfl (by kernel_rfl) (by kernel_rfl) (by kernel_rfl) (by kernel_rfl) (by kernel_rfl) (fun _ _ _ h => h) (by rfl) (fun u _ => by go_simp) hS ?_
      simp only [Act.put, List.setIfInBounds_toArray, List.set_cons_zero, List.set_cons_succ]
      refine wpAnyL_one (i := 11) (by kernel_rfl) rfl (by rfl) fun K hK => ?_
      refine wp_call_value (.tmp 29) (.tmp 30) _ (by rfl) Fn caps (by rfl) (.int .i64 (k : Int)) (by rfl) hent (some 31) (by rfl) (.int .i64 (s k : Int)) _ (hruns k _ hS.2.2.2) ?_
      intro W1 hb1
      have hS1 := unhide HST _ hS W1 hb1
      refine hK _ _ (fun _ => hS1) ?_
      clear hK K hS hb1
      have hS := hS1
      clear hS1
      simp only [Act.put, List.setIfInBounds_toArray, List.set_cons_zero, List.set_cons_succ]
      refine wpAnyL_take 12 32 (.slice (some ⟨L, pn * 1024, none⟩) (s k) 1024) [] rfl rfl (by kernel_rfl) (by kernel_rfl) (by kernel_rfl) (by kernel_rfl) (by kernel_rfl) (fun _ _ _ h => h) (by rfl) (fun u _ => by go_simp) hS ?_
      simp only [Act.put, List.setIfInBounds_toArray, List.set_cons_zero, List.set_cons_succ]
      refine wpAnyL_one (i := 17) (by kernel_rfl) rfl (by rfl) fun K hK => ?_
      refine wp_copy_to (w := W1) _ _ 28 28 (by rfl) _ _ (by rfl) (by rfl) 3 (by rfl) _ _ (landCopy hS.2.2.1 k hkm (s k) (hs k) pn (unhide HPN)) (some 37) (by rfl) ?_
      refine hK _ _ (fun h => absurd rfl h) ?_
      clear hK K
      simp only [Act.put, List.setIfInBounds_toArray, List.set_cons_zero, List.set_cons_succ]
      refine wpAnyL_done (by kernel_rfl) ?_ _
      have hM1 := (DskM.land (s := s) hS.2.2.1 hkm (unhide HH).ok)
      have hU1 := hS.2.2.2.setRow (g := L) (.inl (by simp)) (img ((d.landed s k).set d.pend[k].1 (d.pend[k].2.take (s k) ++ ((d.landed s k).getD d.pend[k].1 []).drop (s k))).flatten)
      generalize W1.setRow L (img ((d.landed s k).set d.pend[k].1 (d.pend[k].2.take (s k) ++ ((d.landed s k).getD d.pend[k].1 []).drop (s k))).flatten) = W2 at *
      have hnl2 : (d.mid s (k + 1)).lies.length = n := by rw [(unhide HNN).1]; exact d.landed_length s (k + 1)
      have d2 := hM1.c2
      rw [hnl2] at d2
      obtain ⟨g', c2, hvg, _, hw1, _⟩ := hM1.write_at k hkm
      obtain ⟨rfl, _, _⟩ : g = g' ∧ d.pend.length = (d.mid s (k + 1)).pend.length ∧ c' = c2 := by simpa using hvg
      have hw1' : W2.cell? ⟨g, k * 1025, none⟩ = some (.int .i64 (pn : Int)) := by rw [unhide HPN]; exact hw1
      obtain ⟨x, _, dt⟩ := hM1.last_at pn (by rw [hnl2]; exact hpn2)
      have dz : W2.frozen? ⟨T, pn, none⟩ = false := by simp [World.frozen?, hM1.last]
      have hpi : (pn : Int) < (n : Int) := by omega
      have HM2 := hide (And.intro hM1 hU1)
      clear hM1 hU1 hS hnl2 hvg hw1 hix hiw hsp hst HST HS0 c0 c1
      go_wp2
      go_region
      all_goals
        go_wp2
        go_roundw
        case rel =>
          refine ⟨k + 1, f'.set pn 0, by omega, by go_num, ?_⟩
          refine hide ⟨?_, ((unhide HM2).2.setCell (.inl (by simp)) _).drew, fun q y hy => ?_⟩
          · have := (unhide HM2).1.clear pn
            rw [← unhide HM] at this
            exact this.keep fun _ _ => rfl
          · rw [List.getElem?_set] at hy
            by_cases hq : pn = q
            · rw [if_pos hq] at hy
              split at hy
              · cases hy; exact .inl rfl
              · cases hy
            · rw [if_neg hq] at hy
              rcases unhide HZ q y hy with h0 | ⟨j, hj, hj2, hj3⟩
              · exact .inl h0
              · refine .inr ⟨j, ?_, hj2, hj3⟩
                rcases Nat.eq_or_lt_of_le hj with e | e
                · subst e
                  exact absurd ((unhide HPN).trans hj3) hq
                · omega
        case measure => simp [intOf]; omega
    · have hkk : k = m := by omega
      subst hkk
      obtain ⟨hD, hU, hz⟩ := unhide HI
      have c1 := hD.c1
      have z1 := hD.fz 1
      have hone : v.oneCell' = true := by rw [unhide HV]; rfl
      clear hD hU hz
      go_wp2
      go_returns
      obtain ⟨hD, hU, hz⟩ := unhide HI
      refine ⟨rfl, ?_, hU.setCell (.inl (by simp)) _⟩
      rw [unhide HM] at hD hz
      exact hD.settled fun q y hy => (hz q y hy).resolve_right (fun ⟨j, h1, h2, _⟩ => by omega)
end
end Go.Proofs.Ytfdibmbffmgikaa
