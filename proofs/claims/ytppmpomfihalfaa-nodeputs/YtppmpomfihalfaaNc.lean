/- Nodes: sizes. -/
import Derived.Test.YtppmpomfihalfaaNb
namespace Go.Proofs.Ytppmpomfihalfaa
open Go.RowKit

theorem sizeN {t n : Nat} (h : (Try.prog.info? t).map (·.size) = some n) (W : World) : (Go.sizeOf t).run Try.prog W = .ok n W := by
  cases hq : Try.prog.info? t with
  | none => simp [hq] at h
  | some i => simp only [hq, Option.map_some, Option.some.injEq] at h; simp [Go.sizeOf, typeInfo, hq, h]
theorem ixCells (g o n c i : Nat) (hi : i < n) (W : World) : (Instr.indexAt 22 (.slice (some ⟨g, o, none⟩) n c) (.int .i64 (i : Int))).run Try.prog W = .ok (.pointer (some ⟨g, o + i * 2, none⟩)) W := by
  have he : Try.prog.elem 22 = 66 := by kernel_rfl
  rw [run_indexAt_slice W 22 _ _ _ _ _ (by rw [he]; kernel_rfl), if_pos ⟨by omega, by omega⟩, he, sizeN (n := 2) (by kernel_rfl)]
  simp only [Result.andThen_ok, Int.toNat_natCast, Addr.add_mid]
theorem ixStrs (g o n c i : Nat) (hi : i < n) (W : World) : (Instr.indexAt 23 (.slice (some ⟨g, o, none⟩) n c) (.int .i64 (i : Int))).run Try.prog W = .ok (.pointer (some ⟨g, o + i, none⟩)) W := by
  have he : Try.prog.elem 23 = 9 := by kernel_rfl
  rw [run_indexAt_slice W 23 _ _ _ _ _ (by rw [he]; kernel_rfl), if_pos ⟨by omega, by omega⟩, he, sizeN (n := 1) (by kernel_rfl)]
  simp only [Result.andThen_ok, Int.toNat_natCast, Addr.add_mid, Nat.mul_one]
theorem ixKids (g o n c i : Nat) (hi : i < n) (W : World) : (Instr.indexAt 24 (.slice (some ⟨g, o, none⟩) n c) (.int .i64 (i : Int))).run Try.prog W = .ok (.pointer (some ⟨g, o + i, none⟩)) W := by
  have he : Try.prog.elem 24 = 50 := by kernel_rfl
  rw [run_indexAt_slice W 24 _ _ _ _ _ (by rw [he]; kernel_rfl), if_pos ⟨by omega, by omega⟩, he, sizeN (n := 1) (by kernel_rfl)]
  simp only [Result.andThen_ok, Int.toNat_natCast, Addr.add_mid, Nat.mul_one]
/-- the i-th cell, key, kid in memory -/
theorem Lies.cl {w : World} {ao : Option Addr} {l : List Cl} (h : Lies w ao (flatC l)) {i : Nat} (hi : i < l.length) : ∃ g o, ao = some ⟨g, o, none⟩ ∧ w.cell? ⟨g, o + i * 2, none⟩ = some (.string l[i].key) ∧ w.cell? ⟨g, o + i * 2 + 1, none⟩ = some (.string l[i].val) := by
  obtain ⟨g, o, h1, h2⟩ := h (by rw [flatC_len]; omega)
  have := flatC_get l i hi
  exact ⟨g, o, h1, h2 _ _ this.1, h2 _ _ this.2⟩
theorem Lies.ky {w : World} {ao : Option Addr} {l : List ByteArray} (h : Lies w ao (flatK l)) {i : Nat} (hi : i < l.length) : ∃ g o, ao = some ⟨g, o, none⟩ ∧ w.cell? ⟨g, o + i, none⟩ = some (.string l[i]) := by
  obtain ⟨g, o, h1, h2⟩ := h (by rw [flatK_len]; omega)
  exact ⟨g, o, h1, h2 _ _ (by simp [flatK, List.getElem?_map, List.getElem?_eq_getElem hi])⟩
theorem Lies.kd {w : World} {ao : Option Addr} {l : List Nat} (h : Lies w ao (flatG l)) {i : Nat} (hi : i < l.length) : ∃ g o, ao = some ⟨g, o, none⟩ ∧ w.cell? ⟨g, o + i, none⟩ = some (.int .u32 (l[i] : Int)) := by
  obtain ⟨g, o, h1, h2⟩ := h (by rw [flatG_len]; omega)
  exact ⟨g, o, h1, h2 _ _ (by simp [flatG, List.getElem?_map, List.getElem?_eq_getElem hi])⟩
/-- the four cells of a node's box -/
theorem box4 {W : World} {N : Nat} {c0 c1 c2 c3 : Value} {t : TypeId} (h : W.heap[N]? = some (.cells #[c0, c1, c2, c3] t (0, 0))) : W.cell? ⟨N, 0, none⟩ = some c0 ∧ W.cell? ⟨N, 1, none⟩ = some c1 ∧ W.cell? ⟨N, 2, none⟩ = some c2 ∧ W.cell? ⟨N, 3, none⟩ = some c3 := by
  refine ⟨?_, ?_, ?_, ?_⟩ <;> simp [World.cell?, h]
theorem tsz_le {s : ByteArray} (h : s.size ≤ 320) : tsz s ≤ 322 := by unfold tsz; split <;> omega
set_option maxRecDepth 100000 in
theorem nItemSize (n : Nd) (a : Nv) (i : Nat) (hi : i < n.items) (hs : n.Small) (u : World) (h : NdAt u n a) : Calls Try.prog 124 #[a.v n, .int .i64 (i : Int)] u fun e u' => e = .returned (.int .i64 ((n.szs.getD i 0 : Nat) : Int)) ∧ Below u.heap.size u u' := by
  obtain ⟨ca, cc, ka, kc, ga, gc⟩ := a
  obtain ⟨lf, cs, ks, gs⟩ := n
  show Calls Try.prog 124 #[.agg #[.bool lf, .slice ca cs.length cc, .slice ka ks.length kc, .slice ga gs.length gc], .int .i64 (i : Int)] u _
  obtain ⟨N, hN⟩ : ∃ N, N = u.heap.size := ⟨_, rfl⟩
  have HN := hide hN
  rw [← hN]
  clear hN
  cases lf
  · have hik : i < ks.length := hi
    obtain ⟨g, o, hao, hc⟩ := h.keys.ky hik
    have hao : ka = some ⟨g, o, none⟩ := hao
    subst hao
    have hix := ixStrs g o ks.length kc i hik
    have hk := hs.2 _ (List.getElem_mem hik)
    have e : (Nd.szs ⟨false, cs, ks, gs⟩).getD i 0 = ksz ks[i] := by simp [Nd.szs, List.getD_eq_getElem?_getD, List.getElem?_map, List.getElem?_eq_getElem hik]
    rw [e]
    have HC := hide hc
    have HT := hide (fun v : World => nText ks[i] (by have := hk.2; omega) v)
    have hb := tsz_le hk.2
    unfold ksz
    generalize tsz ks[i] = z at *
    generalize ks[i] = q at *
    generalize ks.length = kn at *
    clear e hc hk h hs hi
    have hzi : (z : Int) ≤ 322 := by omega
    have hz2 : ((z + 4 : Nat) : Int) = (z : Int) + 4 := by omega
    rw [hz2]
    clear hz2 hb
    go_enter Try.func124, Try.ntmps124
    go_wp2_with (first
      | (refine wpList_box_row (by rfl) 26 (.tmp 0) (by rfl) (some 2) (by rfl) N (by exact (unhide HN).symm) _ rfl ?_; intro W1 HX1 HB1 HS1; simp only [Act.put, List.setIfInBounds_toArray, List.set_cons_zero, List.set_cons_succ]; obtain ⟨y0, y1, y2, y3⟩ := box4 (unhide HX1); have hc1 : W1.cell? ⟨g, o + i, none⟩ = some (.string q) := (by refine ((unhide HB1).cell (p := ⟨g, o + i, none⟩) ?_).trans (unhide HC); rw [unhide HN]; exact World.block_lt_of_cell? u _ (unhide HC)))
      | fail)
    refine (unhide HT _).mono ?_
    rintro e u1 ⟨rfl, rfl⟩
    go_wp2
    go_ret
    exact ⟨rfl, unhide HB1⟩
  · have hik : i < cs.length := hi
    obtain ⟨g, o, hao, hc, hv⟩ := h.cells.cl hik
    have hao : ca = some ⟨g, o, none⟩ := hao
    subst hao
    have hix := ixCells g o cs.length cc i hik
    have hk := hs.1 _ (List.getElem_mem hik)
    have e : (Nd.szs ⟨true, cs, ks, gs⟩).getD i 0 = cs[i].sz := by simp [Nd.szs, List.getD_eq_getElem?_getD, List.getElem?_map, List.getElem?_eq_getElem hik]
    rw [e]
    have HC := hide hc
    have HV := hide hv
    have hb1 := tsz_le (s := cs[i].key) (by have := hk.2; omega)
    have hb2 := tsz_le (s := cs[i].val) (by have := hk.2; omega)
    have HT := hide (fun v : World => nText cs[i].key (by have := hk.2; omega) v)
    have HT2 := hide (fun v : World => nText cs[i].val (by have := hk.2; omega) v)
    unfold Cl.sz
    generalize tsz cs[i].key = z at *
    generalize tsz cs[i].val = y at *
    generalize cs[i].key = q at *
    generalize cs[i].val = p at *
    clear e hc hv hk h hs hi
    generalize cs.length = cn at *
    generalize o + i * 2 = j at *
    have hzi : (z : Int) ≤ 322 := by omega
    have hyi : (y : Int) ≤ 322 := by omega
    have hz2 : ((z + y : Nat) : Int) = (z : Int) + (y : Int) := by omega
    rw [hz2]
    have hw : IntKind.i64.wrap ((z : Int) + (y : Int)) = (z : Int) + (y : Int) := by rw [IntKind.wrap_i64]; omega
    clear hz2 hb1 hb2
    go_enter Try.func124, Try.ntmps124
    go_wp2_with (first
      | (refine wpList_box_row (by rfl) 26 (.tmp 0) (by rfl) (some 2) (by rfl) N (by exact (unhide HN).symm) _ rfl ?_; intro W1 HX1 HB1 HS1; simp only [Act.put, List.setIfInBounds_toArray, List.set_cons_zero, List.set_cons_succ]; obtain ⟨y0, y1, y2, y3⟩ := box4 (unhide HX1); have hc1 : W1.cell? ⟨g, j, none⟩ = some (.string q) := (by refine ((unhide HB1).cell (p := ⟨g, j, none⟩) ?_).trans (unhide HC); rw [unhide HN]; exact World.block_lt_of_cell? u _ (unhide HC)); have hc2 : W1.cell? ⟨g, j + 1, none⟩ = some (.string p) := (by refine ((unhide HB1).cell (p := ⟨g, j + 1, none⟩) ?_).trans (unhide HV); rw [unhide HN]; exact World.block_lt_of_cell? u _ (unhide HV)))
      | fail)
    go_quiet (first | with_reducible exact Calls.quiet_of_same (unhide HT _) | with_reducible exact Calls.quiet_of_same (unhide HT2 _))
    go_wp2
    go_ret
    exact ⟨rfl, belowDrewN (unhide HB1) _⟩
/-- the sum of the first k sizes -/
def Nd.upto (n : Nd) (k : Nat) : Nat := (n.szs.take k).sum
theorem Nd.szs_len (n : Nd) : n.szs.length = n.items := by unfold Nd.szs Nd.items; split <;> simp
theorem Nd.upto_succ (n : Nd) {k : Nat} (hk : k < n.items) : n.upto (k + 1) = n.upto k + n.szs.getD k 0 := by
  rw [← Nd.szs_len] at hk
  unfold Nd.upto
  rw [List.take_add_one, List.sum_append, List.getD_eq_getElem?_getD, List.getElem?_eq_getElem hk]
  simp
theorem Nd.szs_le {n : Nd} (hs : n.Small) : ∀ x ∈ n.szs, x ≤ 644 := by
  intro x hx
  unfold Nd.szs at hx
  split at hx
  · obtain ⟨c, hc, rfl⟩ := List.mem_map.1 hx
    have := hs.1 c hc
    have h1 := tsz_le (s := c.key) (by have := this.2; omega)
    have h2 := tsz_le (s := c.val) (by have := this.2; omega)
    unfold Cl.sz; omega
  · obtain ⟨c, hc, rfl⟩ := List.mem_map.1 hx
    have h1 := tsz_le (s := c) (hs.2 c hc).2
    unfold ksz; omega
theorem sum_le_mul : ∀ (l : List Nat) (b : Nat), (∀ x ∈ l, x ≤ b) → l.sum ≤ b * l.length
  | [], _, _ => by simp
  | a :: l, b, h => by
    have := sum_le_mul l b (fun x hx => h x (List.mem_cons_of_mem _ hx))
    have := h a (List.mem_cons_self ..)
    rw [List.sum_cons, List.length_cons, Nat.mul_succ]
    omega
theorem Nd.upto_le {n : Nd} (hs : n.Small) (k : Nat) : n.upto k ≤ 644 * k := by
  unfold Nd.upto
  have h := sum_le_mul (n.szs.take k) 644 (fun x hx => Nd.szs_le hs x (List.mem_of_mem_take hx))
  have : (n.szs.take k).length ≤ k := by rw [List.length_take]; omega
  have := Nat.mul_le_mul_left 644 this
  omega
theorem Nd.szs_get_le {n : Nd} (hs : n.Small) (k : Nat) : n.szs.getD k 0 ≤ 644 := by
  rw [List.getD_eq_getElem?_getD]
  cases h : n.szs[k]? with
  | none => simp
  | some x => exact Nd.szs_le hs x (List.mem_of_getElem? h)
theorem Nd.upto_all (n : Nd) : n.upto n.items = n.szs.sum := by
  unfold Nd.upto; rw [← Nd.szs_len, List.take_length]
/-- the box stays -/
theorem box_below {W u : World} {N : Nat} {o : Obj} (h : W.heap[N]? = some o) (hb : Below W.heap.size W u) : u.heap[N]? = some o := (hb.block N (Array.getElem?_eq_some_iff.1 h).1).trans h
theorem nItemsSize (n : Nd) (a : Nv) (hs : n.Small) (u : World) (h : NdAt u n a) : Calls Try.prog 109 #[a.v n] u fun e u' => e = .returned (.int .i64 ((n.szs.sum : Nat) : Int)) ∧ Below u.heap.size u u' := by
  have HQ := hide h
  have HI := hide (fun v : World => nItems n a v)
  have HZ := hide (fun (i : Nat) (hi : i < n.items) (v : World) (hv : NdAt v n a) => nItemSize n a i hi hs v hv)
  have HL : Hid (n.items ≤ 140737488355328) := by unfold Nd.items; split; exact h.len.1; exact h.len.2.1
  have HU := hide (fun k => Nd.upto_le hs k)
  have HV := hide (fun k => Nd.szs_get_le hs k)
  have HUS := hide (fun k (hk : k < n.items) => Nd.upto_succ n hk)
  have HUA := hide (Nd.upto_all n)
  obtain ⟨N, hN⟩ : ∃ N, N = u.heap.size := ⟨_, rfl⟩
  have HN := hide hN
  rw [← hN, ← Nd.upto_all]
  obtain ⟨m, hm⟩ : ∃ m, m = n.items := ⟨_, rfl⟩
  have HM := hide hm
  rw [← hm] at HI HL HZ HUS ⊢
  clear hN h hs hm HUA
  have hmi : (m : Int) ≤ 140737488355328 := by have := unhide HL; omega
  obtain ⟨ca, cc, ka, kc, ga, gc⟩ := a
  obtain ⟨lf, cs, ks, gs⟩ := n
  have HI2 : Hid (∀ v : World, Calls Try.prog 123 #[.agg #[.bool lf, .slice ca cs.length cc, .slice ka ks.length kc, .slice ga gs.length gc]] v fun e u' => e = .returned (.int .i64 (m : Int)) ∧ Below v.heap.size v u') := unhide HI
  have HZ2 : Hid (∀ (i : Nat), i < m → ∀ v : World, NdAt v ⟨lf, cs, ks, gs⟩ ⟨ca, cc, ka, kc, ga, gc⟩ → Calls Try.prog 124 #[.agg #[.bool lf, .slice ca cs.length cc, .slice ka ks.length kc, .slice ga gs.length gc], .int .i64 (i : Int)] v fun e u' => e = .returned (.int .i64 ((Nd.szs ⟨lf, cs, ks, gs⟩).getD i 0 : Nat)) ∧ Below v.heap.size v u') := unhide HZ
  show Calls Try.prog 109 #[.agg #[.bool lf, .slice ca cs.length cc, .slice ka ks.length kc, .slice ga gs.length gc]] u _
  clear HI HZ
  generalize cs.length = cn at *
  generalize ks.length = kn at *
  generalize gs.length = gn at *
  generalize Nd.mk lf cs ks gs = nn at *
  clear HM
  go_enter Try.func109, Try.ntmps109
  go_wp2_with (first
    | (refine wpList_box_row (by rfl) 26 (.tmp 0) (by rfl) (some 1) (by rfl) N (by exact (unhide HN).symm) #[.bool lf, .slice ca cn cc, .slice ka kn kc, .slice ga gn gc] rfl ?_; intro W1 HX1 HB1 HS1; simp only [Act.put, List.setIfInBounds_toArray, List.set_cons_zero, List.set_cons_succ]; obtain ⟨y0, y1, y2, y3⟩ := box4 (unhide HX1))
    | fail)
  refine (unhide HI2 _).mono ?_
  rintro e w2 ⟨rfl, hb2⟩
  have HX2 := hide (box_below (unhide HX1) hb2)
  have HB2 : Hid (Below N u w2) := (unhide HB1).trans (hb2.mono (by rw [unhide HS1]; omega))
  clear hb2 y0 y1 y2 y3 HX1 HB1 HS1
  go_wp2_with fail
  go_loopw [3, 7] (fun b i wr => ∃ k : Nat, k ≤ m ∧ i = .int .i64 k ∧ b = .int .i64 (nn.upto k : Nat) ∧ Hid (Below N u wr ∧ wr.heap[N]? = some (.cells #[.bool lf, .slice ca cn cc, .slice ka kn kc, .slice ga gn gc] 26 (0, 0)))) (fun _ i _ => m - (intOf i).toNat)
  case atStart => exact ⟨0, Nat.zero_le _, rfl, by simp [Nd.upto], unhide HB2, unhide HX2⟩
  case round =>
    obtain ⟨k, hk, rfl, rfl, HI⟩ := hrel
    by_cases hlt : k < m
    · have hki : (k : Int) < (m : Int) := by omega
      obtain ⟨y0, y1, y2, y3⟩ := box4 (unhide HI).2
      have hq : NdAt wr nn ⟨ca, cc, ka, kc, ga, gc⟩ := (unhide HQ).below (by rw [← unhide HN]; exact (unhide HI).1)
      have HC := hide (unhide HZ2 k hlt wr hq)
      have h1 := unhide HU k
      have h2 := unhide HV k
      have h3 := unhide HUS k hlt
      have HE := hide h3
      clear h3 hq
      generalize nn.upto k = s at *
      generalize nn.szs.getD k 0 = z at *
      have hsi : (s : Int) ≤ 90634942500831232 := by have := unhide HL; omega
      have hzi : (z : Int) ≤ 644 := by omega
      clear h1 h2
      go_wp2_with fail
      refine (unhide HC).mono ?_
      rintro e w3 ⟨rfl, hb3⟩
      have HB3 : Hid (Below N u w3 ∧ w3.heap[N]? = some (.cells #[.bool lf, .slice ca cn cc, .slice ka kn kc, .slice ga gn gc] 26 (0, 0))) := ⟨(unhide HI).1.trans (hb3.mono (by rw [unhide HN]; exact (unhide HI).1.size)), box_below (unhide HI).2 hb3⟩
      clear hb3
      go_wp2
      go_roundw
      case rel => exact ⟨k + 1, by omega, by go_num, by rw [unhide HE]; go_num, unhide HB3⟩
      case measure => simp [intOf]; omega
    · obtain rfl : k = m := by omega
      have hki : ¬ (k : Int) < (k : Int) := by omega
      go_wp2
      go_ret
      exact ⟨rfl, (unhide HI).1⟩
end Go.Proofs.Ytppmpomfihalfaa
