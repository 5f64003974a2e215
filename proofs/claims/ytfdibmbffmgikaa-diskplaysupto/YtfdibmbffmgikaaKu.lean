/- The disk's laws: a step on a device. -/
import Derived.Test.YtfdibmbffmgikaaKr
namespace Go.Proofs.Ytfdibmbffmgikaa
open Go.RowKit Go.Lib

def cCells (p : List (Nat × List UInt8)) : List Value := p.flatMap fun q => [.int .i64 (q.1 : Int), str q.2]
theorem cCells_len (p : List (Nat × List UInt8)) : (cCells p).length = p.length * 2 := by
  induction p with
  | nil => rfl
  | cons q p ih =>
    simp only [cCells, List.flatMap_cons, List.length_append, List.length_cons, List.length_nil] at ih ⊢
    omega
theorem cCells_at (p : List (Nat × List UInt8)) (i : Nat) (hi : i < p.length) : (cCells p)[i * 2]? = some (.int .i64 (p[i].1 : Int)) ∧ (cCells p)[i * 2 + 1]? = some (str p[i].2) := by
  induction p generalizing i with
  | nil => exact absurd hi (Nat.not_lt_zero _)
  | cons q p ih =>
    cases i with
    | zero => exact ⟨rfl, rfl⟩
    | succ i =>
      have := ih i (by simpa using hi)
      have e1 : (i + 1) * 2 = i * 2 + 2 := by omega
      have e2 : cCells (q :: p) = .int .i64 (q.1 : Int) :: str q.2 :: cCells p := rfl
      rw [e1, e2]
      simpa using this
theorem cInfo : (Try.prog.info? 58).map (fun i => (i.zero, i.size, i.bytes)) = some (some (.agg #[.int .i64 0, .string .empty]), 2, 24) := by kernel_rfl
/-- no power was ever lost, no fuse was set -/
structure Clean (d : Dk) : Prop where
  off : d.off = false
  fuse : d.fuse = -1
def Dk.act (d : Dk) (x : St) : Dk := if x.kind = 0 then (d.write x.n (cont x.s x.odd)).2 else if x.kind = 2 then d.sync.2 else d
theorem Clean.write {d : Dk} (h : Clean d) (x : Int) (bs : List UInt8) : d.write x bs = if 0 ≤ x ∧ x < (d.lies.length : Int) ∧ bs.length = 1024 then (0, d.put x.toNat bs) else (1, d) := by
  by_cases hx : 0 ≤ x ∧ x < (d.lies.length : Int)
  · by_cases hb : bs.length = 1024
    · rw [if_pos ⟨hx.1, hx.2, hb⟩, Dk.write_done h.off hx.1 hx.2 hb (by rw [h.fuse]; decide), Dk.asked_neg (by rw [h.fuse]; decide)]
    · rw [if_neg (fun h => hb h.2.2), Dk.write_len h.off hx.1 hx.2 hb]
  · rw [if_neg (fun h => hx ⟨h.1, h.2.1⟩), Dk.write_out h.off (by omega)]
theorem Clean.sync {d : Dk} (h : Clean d) : d.sync = (0, d.settle fun _ => 1024) := Dk.sync_ok h.off (by rw [h.fuse]; decide)
theorem Clean.act {d : Dk} (h : Clean d) (x : St) : Clean (d.act x) := by
  unfold Dk.act
  split
  · rw [h.write]
    split
    · exact ⟨h.off, h.fuse⟩
    · exact h
  · split
    · rw [h.sync]; exact ⟨h.off, h.fuse⟩
    · exact h
theorem Clean.act_pend {d : Dk} (h : Clean d) (x : St) : (d.act x).pend.length ≤ d.pend.length + 1 := by
  unfold Dk.act
  split
  · rw [h.write]
    split
    · simp [Dk.put]
    · exact Nat.le_succ _
  · split
    · rw [h.sync]; exact Nat.zero_le _
    · exact Nat.le_succ _
theorem Clean.act_lies {d : Dk} (h : Clean d) (x : St) : (d.act x).lies.length = d.lies.length := by
  unfold Dk.act
  split
  · rw [h.write]
    split <;> rfl
  · split
    · rw [h.sync]; exact d.landed_length _ _
    · rfl
theorem Clean.loaded (ls : List ByteArray) : Clean (Dk.loaded ls) := ⟨rfl, rfl⟩
section
variable {B : Nat} {w : World} {D : Nat} {F : List Nat} {d : Dk} {v : Value}
set_option maxRecDepth 100000 in
set_option maxHeartbeats 4000000 in
theorem lDoes (h : Dsk B w D F d) (hc : Clean d) (hB : B ≤ w.heap.size) (hm : d.pend.length ≤ 2000000) (p : List (Nat × List UInt8)) (hp : p.length ≤ 2000000) (hv : w.ownsRow B 58 2 v p.length (cCells p)) (hvF : ∀ k, v.ownBlock = some k → k ∉ F) (x : St) (hx : x.Ok) :
    Calls Try.prog 29 #[.iface 22 (.pointer (some ⟨D, 0, none⟩)), v, .agg x.cs] w fun e w' => ∃ v' F' p', e = .returned v' ∧ Dsk B w' D F' (d.act x) ∧ w'.ownsRow B 58 2 v' p'.length (cCells p') ∧ (p = d.pend → p' = (d.act x).pend) ∧ p'.length ≤ p.length + 1 ∧
      UpS w w' (F ++ v.ownBlock.toList) ∧ (∀ k ∈ F', k ∈ F ∨ w.heap.size ≤ k) ∧ (∀ k, v'.ownBlock = some k → v.ownBlock = some k ∨ w.heap.size ≤ k) ∧ (∀ k, v'.ownBlock = some k → k ∉ F') := by
  obtain ⟨N, hN⟩ : ∃ N, N = w.heap.size := ⟨_, rfl⟩
  have HN := hide hN
  have HCT := hide (fun u => lContent x hx.s u)
  obtain ⟨C, hC⟩ : ∃ C, C = x.cs := ⟨_, rfl⟩
  have HC1 : Hid (C.size = 7 ∧ C.all (·.oneCell') = true) := by rw [hC]; exact ⟨x.cs_size, x.cs_one⟩
  have HC2 : Hid (C = #[.int .i64 x.kind, .int .i64 x.n, .string x.s, .bool x.odd, .slice x.kao x.ks.length x.kc, .int .i64 x.torn, .int .i64 x.cut]) := hC
  rw [← hC] at HCT ⊢
  clear hC
  have hone : v.oneCell' = true := by obtain ⟨ao, c, e⟩ := ownsRow_len hv; rw [e]; rfl
  have HD := hide h
  have HV := hide hv
  have HVF := hide hvF
  clear h hv hvF hN
  by_cases hk0 : x.kind = 0
  · rw [hk0] at HC2
    obtain ⟨bs, hbs⟩ : ∃ z, z = cont x.s x.odd := ⟨_, rfl⟩
    have eact : d.act x = (d.write x.n bs).2 := by unfold Dk.act; rw [if_pos hk0, hbs]
    rw [eact]
    rw [← hbs] at HCT
    obtain ⟨Z, hZ⟩ : ∃ Z : ByteArray, Z = ⟨bs.toArray⟩ := ⟨_, rfl⟩
    rw [← hZ] at HCT
    have HZ := hide hZ
    have HZB : Hid (Z.data.toList = bs) := (show Z.data.toList = bs from by rw [hZ])
    have hzs : Z.size = bs.length := by rw [hZ]; exact size_mk bs
    clear hZ hbs eact
    obtain ⟨xn, hxn⟩ : ∃ z, z = x.n := ⟨_, rfl⟩
    rw [← hxn] at HC2 ⊢
    clear hxn
    go_enter Try.func29, Try.ntmps29
    go_wp2_with (first | (refine wpList_box_row (by rfl) 47 (.tmp 2) (by rfl) (some 5) (by rfl) N (by exact (unhide HN).symm) C (by rfl) ?_; intro W1 HX1 HB1 HS1; simp only [Act.put, List.setIfInBounds_toArray, List.set_cons_zero, List.set_cons_succ]; have hc0 : W1.cell? ⟨N, 0, none⟩ = some (.int .i64 0) := (by rw [cell_of_row W1 N 0 _ _ _ (unhide HX1), unhide HC2]; rfl); have hc1 : W1.cell? ⟨N, 1, none⟩ = some (.int .i64 xn) := (by rw [cell_of_row W1 N 1 _ _ _ (unhide HX1), unhide HC2]; rfl)) | (refine wpList_load_row (by rfl) 47 (.tmp 5) (by rfl) N (by rfl) 47 C (0, 0) _ (unhide HX1) stepUnd rfl (by rw [(unhide HC1).1]; exact stepInfo) ?_; simp only [Act.put, List.setIfInBounds_toArray, List.set_cons_zero, List.set_cons_succ]))
    refine (unhide HCT _).mono ?_
    rintro e w2 ⟨rfl, hb⟩
    have hb1 : Below w.heap.size w W1 := by rw [← unhide HN]; exact unhide HB1
    have hd1 : w2.cell? ⟨N, 1, none⟩ = some (.int .i64 xn) := (hb.cell (World.block_lt_of_cell? W1 _ hc1)).trans hc1
    have hd0 : w2.cell? ⟨N, 0, none⟩ = some (.int .i64 0) := (hb.cell (World.block_lt_of_cell? W1 _ hc0)).trans hc0
    have HB2 : Hid (Below w.heap.size w w2) := hb1.trans (hb.mono hb1.size)
    obtain ⟨c3, w3, hcv, hr3, hb3, hs3⟩ := conv_bytes w2 Z
    have HB3 : Hid (Below w.heap.size w w3) := (unhide HB2).trans (hb3.mono (unhide HB2).size)
    have HD3 := hide ((unhide HD).below (unhide HB3))
    have HR3 : Hid (w3.rangeAt w2.heap.size 0 (byteCells bs)) := by rw [unhide HZB] at hr3; exact hr3
    have HF3 : Hid (w2.heap.size ∉ F) := fun hx => by have := ((unhide HD).ge _ hx).2; have := (unhide HB2).size; omega
    have hd3 : w3.cell? ⟨N, 1, none⟩ = some (.int .i64 xn) := (hb3.cell (World.block_lt_of_cell? w2 _ hd1)).trans hd1
    have hd30 : w3.cell? ⟨N, 0, none⟩ = some (.int .i64 0) := (hb3.cell (World.block_lt_of_cell? w2 _ hd0)).trans hd0
    rw [hzs] at hcv
    clear hb hb1 hr3 hb3 hs3 hc0 hc1 HX1 HB1 HS1 HCT HC1 HC2
    go_wp2_with fail
    refine (kWriteN (unhide HD3) (by have := (unhide HB3).size; omega) xn _ bs.length c3 bs rfl (fun _ => ⟨_, 0, rfl, unhide HF3, unhide HR3⟩) (by omega) _ rfl).mono ?_
    rintro e w4 ⟨rfl, F4, hd4, hu4, hs4⟩
    have HU4 : Hid (UpS w w4 F) := (UpS.ofBelow F (unhide HB3)).trans hu4 (fun x hx => .inl hx)
    have HF4 : Hid (∀ k ∈ F4, k ∈ F ∨ w.heap.size ≤ k) := fun k hk => (hs4 k hk).imp id (fun h => Nat.le_trans (unhide HB3).size h)
    have HD4 := hide hd4
    have hNlt : N < w3.heap.size := World.block_lt_of_cell? w3 _ hd3
    have hd4' : w4.cell? ⟨N, 1, none⟩ = some (.int .i64 xn) := (hu4.cell (p := ⟨N, 1, none⟩) hNlt (fun hx => by have := ((unhide HD).ge N hx).2; have := unhide HN; omega)).trans hd3
    have hk0' : w4.cell? ⟨N, 0, none⟩ = some (.int .i64 0) := (hu4.cell (p := ⟨N, 0, none⟩) hNlt (fun hx => by have := ((unhide HD).ge N hx).2; have := unhide HN; omega)).trans hd30
    have HV4 : Hid (w4.ownsRow B 58 2 v p.length (cCells p)) := ownsRow_keep (unhide HV) fun k hk => (unhide HU4).block k ((unhide HV).lt k hk).2 (unhide HVF k hk)
    clear hd4 hu4 hs4 hcv HB3 HD3 HR3 HF3 hd1 hd3 hNlt hd0 hd30
    have hwr := hc.write xn bs
    by_cases hfit : 0 ≤ xn ∧ xn < (d.lies.length : Int) ∧ bs.length = 1024
    · rw [if_pos hfit] at hwr
      have hwr1 : (d.write xn bs).1 = 0 := by rw [hwr]
      rw [hwr] at HD4
      have HWR := hide hwr
      obtain ⟨n, hn⟩ := Int.eq_ofNat_of_zero_le hfit.1
      subst hn
      obtain ⟨i0, hi, hz0, hz1, hz2⟩ := info_parts cInfo
      have hown : (w4.alloc (.cells #[.int .i64 (n : Int), .string Z] 58)).ownsRow B 58 2 v p.length (cCells p) := ownsRow_keep (unhide HV4) fun k hk => Deep.blk_alloc_lt w4 _ k ((unhide HV4).lt k hk).2
      obtain ⟨v', w5, hrun, hown', hgrow, hnew⟩ := run_append_own' (P := Try.prog) (w4.alloc (.cells #[.int .i64 (n : Int), .string Z] 58)) B 55 55 58 i0 (.agg #[.int .i64 0, .string .empty]) 2 24 Try.underlying55 hi hz0 hz1 hz2 rfl (by decide) v p.length (cCells p) hown ⟨w4.heap.size, 0, none⟩ 1 1 [.int .i64 (n : Int), .string Z] rfl (fun j y hy => by
        rw [Addr.add_mid, Nat.zero_add, cell_of_row _ w4.heap.size j _ _ _ (heap_alloc_new w4 _)]
        simpa using hy) (fun y hy => by
        rcases List.mem_cons.1 hy with rfl | hy
        · rfl
        · rw [List.mem_singleton.1 hy]; rfl) (by simp only [maxLen]; omega) (by omega) (by have := (unhide HU4).size; simp; omega)
      have hNw : Hid (NewRow (w4.alloc (.cells #[.int .i64 (n : Int), .string Z] 58)) v v') := hnew
      have HUA : Hid (UpS w w5 (F ++ v.ownBlock.toList)) := (((unhide HU4).mono (fun x hx => .inl (by simp [hx]))).alloc _).trans (UpS.ofGrown (F := v.ownBlock.toList) hgrow (fun k hk => .inl (by simp [hk]))) (fun x hx => .inl (by simp only [List.mem_append]; exact .inr hx))
      have hF4lt : ∀ k ∈ F4, k < w4.heap.size := fun k hk => ((unhide HD4).ge k hk).2
      have hvF4 : ∀ k, v.ownBlock = some k → k ∉ F4 := fun k hk hx => (unhide HF4 k hx).elim (unhide HVF k hk) (fun h => by have := ((unhide HV).lt k hk).2; omega)
      have HD5 : Hid (Dsk B w5 D F4 (d.put n bs)) := (unhide HD4).keep fun k hk => (hgrow.block k (by have := hF4lt k hk; simp; omega) (fun e => hvF4 k e.symm hk)).trans (Deep.blk_alloc_lt w4 _ k (hF4lt k hk))
      have HO5 : Hid (w5.ownsRow B 58 2 v' (p ++ [(n, bs)]).length (cCells (p ++ [(n, bs)]))) := by
        have e : cCells (p ++ [(n, bs)]) = cCells p ++ [.int .i64 (n : Int), .string Z] := by rw [unhide HZ]; simp [cCells, str]
        rw [e, List.length_append]
        exact hown'
      have HVN : Hid ((∀ k, v'.ownBlock = some k → v.ownBlock = some k ∨ w.heap.size ≤ k) ∧ ∀ k, v'.ownBlock = some k → k ∉ F4) := by
        have hsz := (unhide HU4).size
        refine ⟨fun k hk => ?_, fun k hk hx => ?_⟩
        · rcases hnew with h | ⟨g, h1, h2⟩
          · exact .inl (h ▸ hk)
          · rw [hk] at h1; cases h1; exact .inr (by simp at h2; omega)
        · rcases hnew with h | ⟨g, h1, h2⟩
          · exact hvF4 k (h ▸ hk) hx
          · rw [hk] at h1; cases h1; have := hF4lt k hx; simp at h2; omega
      clear hown hown' hgrow hnew hwr hfit HV4 hF4lt hvF4
      go_wp2_with (at_builtin; refine append_to (by rfl) (.tmp 20) (.tmp 25) 55 55 (by rfl) (some 26) (by rfl) 55 (by rfl) _ _ (by rfl) (by rfl) _ _ hrun ?_; simp only [Act.put, List.setIfInBounds_toArray, List.set_cons_zero, List.set_cons_succ])
      go_ret
      exact ⟨v', F4, p ++ [(n, bs)], rfl, by rw [unhide HWR]; exact unhide HD5, unhide HO5, fun e => by rw [e, unhide HWR]; rfl, by simp, unhide HUA, unhide HF4, (unhide HVN).1, (unhide HVN).2⟩
    · rw [if_neg hfit] at hwr
      have hwr1 : (d.write xn bs).1 = 1 := by rw [hwr]
      rw [hwr] at HD4
      have HWR := hide hwr
      clear hwr
      go_wp2
      go_ret
      exact ⟨v, F4, p, rfl, by rw [unhide HWR]; exact unhide HD4, unhide HV4, fun e => by rw [unhide HWR]; exact e, by omega, (unhide HU4).mono (fun x hx => .inl (by simp [hx])), unhide HF4, fun k hk => .inl hk, fun k hk hx => (unhide HF4 k hx).elim (unhide HVF k hk) (fun h => by have := ((unhide HV).lt k hk).2; omega)⟩
  · by_cases hk2 : x.kind = 2
    · rw [hk2] at HC2
      have eact : d.act x = d.settle fun _ => 1024 := by unfold Dk.act; rw [if_neg hk0, if_pos hk2, hc.sync]
      rw [eact]
      clear eact
      go_enter Try.func29, Try.ntmps29
      go_wp2_with (first | (refine wpList_box_row (by rfl) 47 (.tmp 2) (by rfl) (some 5) (by rfl) N (by exact (unhide HN).symm) C (by rfl) ?_; intro W1 HX1 HB1 HS1; simp only [Act.put, List.setIfInBounds_toArray, List.set_cons_zero, List.set_cons_succ]; have hc0 : W1.cell? ⟨N, 0, none⟩ = some (.int .i64 2) := (by rw [cell_of_row W1 N 0 _ _ _ (unhide HX1), unhide HC2]; rfl); have hc1 : W1.cell? ⟨N, 1, none⟩ = some (.int .i64 x.n) := (by rw [cell_of_row W1 N 1 _ _ _ (unhide HX1), unhide HC2]; rfl)) | (refine wpList_load_row (by rfl) 47 (.tmp 5) (by rfl) N (by rfl) 47 C (0, 0) _ (unhide HX1) stepUnd rfl (by rw [(unhide HC1).1]; exact stepInfo) ?_; simp only [Act.put, List.setIfInBounds_toArray, List.set_cons_zero, List.set_cons_succ]))
      have hb1 : Below w.heap.size w W1 := by rw [← unhide HN]; exact unhide HB1
      refine (kSyncN ((unhide HD).below hb1) (by omega) _ hc.sync).mono ?_
      rintro e w4 ⟨rfl, F4, hd4, hu4, hs4⟩
      have HD4 := hide hd4
      have HU4 : Hid (UpS w w4 F) := (UpS.ofBelow F hb1).trans hu4 (fun x hx => .inl hx)
      have HF4 := hide hs4
      clear hd4 hu4 hs4
      go_wp2
      go_ret
      exact ⟨.slice none 0 0, F4, [], rfl, unhide HD4, World.ownsRow_nil _ _ _ _, fun _ => rfl, Nat.zero_le _, (unhide HU4).mono (fun x hx => .inl (by simp [hx])), fun k hk => .inl (unhide HF4 k hk), (fun k hk => by cases hk), (fun k hk => by cases hk)⟩
    · have eact : d.act x = d := by unfold Dk.act; rw [if_neg hk0, if_neg hk2]
      rw [eact]
      go_enter Try.func29, Try.ntmps29
      go_wp2_with (first | (refine wpList_box_row (by rfl) 47 (.tmp 2) (by rfl) (some 5) (by rfl) N (by exact (unhide HN).symm) C (by rfl) ?_; intro W1 HX1 HB1 HS1; simp only [Act.put, List.setIfInBounds_toArray, List.set_cons_zero, List.set_cons_succ]; have hc0 : W1.cell? ⟨N, 0, none⟩ = some (.int .i64 x.kind) := (by rw [cell_of_row W1 N 0 _ _ _ (unhide HX1), unhide HC2]; rfl); have hc1 : W1.cell? ⟨N, 1, none⟩ = some (.int .i64 x.n) := (by rw [cell_of_row W1 N 1 _ _ _ (unhide HX1), unhide HC2]; rfl)) | (refine wpList_load_row (by rfl) 47 (.tmp 5) (by rfl) N (by rfl) 47 C (0, 0) _ (unhide HX1) stepUnd rfl (by rw [(unhide HC1).1]; exact stepInfo) ?_; simp only [Act.put, List.setIfInBounds_toArray, List.set_cons_zero, List.set_cons_succ]))
      go_ret
      have hb1 : Below w.heap.size w W1 := by rw [← unhide HN]; exact unhide HB1
      exact ⟨v, F, p, rfl, (unhide HD).below hb1, ownsRow_keep (unhide HV) fun k hk => hb1.block k ((unhide HV).lt k hk).2, id, by omega, UpS.ofBelow _ hb1, fun k hk => .inl hk, fun k hk => .inl hk, unhide HVF⟩
end
end Go.Proofs.Ytfdibmbffmgikaa
