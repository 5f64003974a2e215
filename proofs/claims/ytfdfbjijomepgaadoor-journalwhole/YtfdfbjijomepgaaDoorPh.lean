/- The page: claimed. -/
import Derived.Test.YtfdfbjijomepgaaDoorPe
import Derived.Test.YtfdfbjijomepgaaDoorPf
namespace Go.Proofs.YtfdfbjijomepgaaDoor
open Go.RowKit Go.Lib

theorem heapCell_same' {w : World} {g : Nat} {cs : Array Value} {t : TypeId} {fr : Nat × Nat} (h : w.heap[g]? = some (.cells cs t fr)) (k : Nat) (v : Value) : (w.setCell ⟨g, k, none⟩ v).heap[g]? = some (.cells (cs.setIfInBounds k v) t fr) := by
  simp [World.setCell, Array.getElem?_modify, h]
theorem conv_img {u : World} {G : Nat} {l : List UInt8} {t : TypeId} (hX : u.heap[G]? = some (.cells (img l) t (0, 0))) (hl : l.length = 1024) : (convert 71 9 (.slice (some ⟨G, 0, none⟩) 1024 1024)).run Tryd.prog u = .ok (.string ⟨l.toArray⟩) u := by
  have := run_convert_bytes_back u 71 9 5 ⟨G, 0, none⟩ 1024 l Tryd.underlying71 Tryd.underlying5 Tryd.underlying9 fun j hj => by
    have e : (⟨G, 0, none⟩ : Addr).add j = ⟨G, j, none⟩ := by cases j <;> simp [Addr.add]
    rw [e, cellOf hX, img_at l j hj]
  rw [hl] at this
  exact this
/-- a reader, the page that is read, the answer's place -/
structure Cm (w u : World) (R A Q : Nat) (T : ByteArray) (pos : Nat) (e : Int) (cs : Array Value) : Prop where
  rd : Rd u A T pos e
  q : u.heap[Q]? = some (.cells cs 70 (0, 0))
  r : u.heap[R]? = some (.cells #[.int .u8 0, .int .u32 0, .int .u64 0, .string ⟨#[]⟩] 70 (0, 0))
  aq : Q ≠ A
  ar : R ≠ A
  qr : R ≠ Q
  ga : w.heap.size ≤ A
  gq : w.heap.size ≤ Q
  gr : w.heap.size ≤ R
  bel : Below w.heap.size w u
section
variable {w u u' : World} {R A Q : Nat} {T : ByteArray} {pos pos' : Nat} {e e' : Int} {cs : Array Value}
theorem Cm.read (h : Cm w u R A Q T pos e cs) (hr : Rt u u' A T pos' e') : Cm w u' R A Q T pos' e' cs :=
  ⟨hr.1, (hr.2.block Q (Array.getElem?_eq_some_iff.1 h.q).1 h.aq h.aq).trans h.q, (hr.2.block R (Array.getElem?_eq_some_iff.1 h.r).1 h.ar h.ar).trans h.r, h.aq, h.ar, h.qr, h.ga, h.gq, h.gr, h.bel.trans (hr.2.below h.bel.size h.ga h.ga)⟩
theorem Cm.store (h : Cm w u R A Q T pos e cs) (k : Nat) (v : Value) : Cm w (u.setCell ⟨Q, k, none⟩ v) R A Q T pos e (cs.setIfInBounds k v) := by
  have ho : ∀ x, x ≠ Q → (u.setCell ⟨Q, k, none⟩ v).heap[x]? = u.heap[x]? := fun x hx => Deep.blk_setCell_other u ⟨Q, k, none⟩ v x hx
  have hb : Below w.heap.size w (u.setCell ⟨Q, k, none⟩ v) := ⟨h.bel.os, h.bel.tape, h.bel.output, by simpa [World.setCell] using h.bel.size, fun x hx => (ho x (by have := h.gq; omega)).trans (h.bel.block x hx)⟩
  exact ⟨h.rd.same (by simp [World.setCell]) (ho A (Ne.symm h.aq)), heapCell_same' h.q _ _, (ho R h.qr).trans h.r, h.aq, h.ar, h.qr, h.ga, h.gq, h.gr, hb⟩
theorem Cm.cell (h : Cm w u R A Q T pos e cs) (k : Nat) : u.cell? ⟨Q, k, none⟩ = cs[k]? := cellOf h.q k
theorem Cm.fz (h : Cm w u R A Q T pos e cs) (k : Nat) : u.frozen? ⟨Q, k, none⟩ = false := by simp [World.frozen?, h.q]
end
theorem wpList_store_hid {P : Program} {ops : Array Oper} {rest : List Oper} {o : Oper} {a : Act} {w : World} {Q : Exit → Act → World → Prop} (hgd : o.guard = none) (ty : TypeId) (x y : Operand) (ho : o.op = .store ty x y)
    (g : Nat) (cells : Array Value) (hx : a.eval x = .pointer (some ⟨g, 0, none⟩)) (hy : a.eval y = .agg cells)
    (t : TypeId) (old : Array Value) (hg : w.heap[g]? = some (.cells old t (0, 0))) (hi : (P.info? ty).map (·.size) = some cells.size)
    (hold : old.size = cells.size) (h1 : cells.all (·.oneCell') = true)
    (h : ∀ w', Hid (w'.heap[g]? = some (.cells cells t (0, 0))) → Hid (w' = w.setRow g cells) → wpList P ops Q rest (a.put o.dst undef) w') : wpList P ops Q (o :: rest) a w :=
  wpList_store_row hgd ty x y ho g cells hx hy t old hg hi hold h1 (h _ (heapRow_same hg _) rfl)
/-- the page that bytes say they are -/
def claim (T : ByteArray) : Pg := ⟨numB (T.extract 8 9).data.toList % 256, numB (T.extract 12 16).data.toList, numB (T.extract 0 8).data.toList, (rawS T 20 0 (numB (T.extract 10 12).data.toList : Nat)).1⟩
theorem fixS_at (T : ByteArray) (p n : Nat) (h0 : 1 ≤ n) (h8 : n ≤ 8) (hs : p + n ≤ T.size) : fixS T p 0 (n : Int) = (numB (T.extract p (p + n)).data.toList, p + n, 0) := by
  rw [fixS, if_neg (by omega), rawS, if_neg (by simp), if_neg (by omega), if_neg (by omega)]
  simp
theorem rawS_at (T : ByteArray) (p n : Nat) (hs : p + n ≤ T.size) : (rawS T p 0 (n : Int)).2 = (p + n, 0) := by
  rw [rawS, if_neg (by simp), if_neg (by omega), if_neg (by omega)]
  simp
theorem ext_len (T : ByteArray) (p q : Nat) (h1 : p ≤ q) (h2 : q ≤ T.size) : (T.extract p q).data.toList.length = q - p := by
  rw [Array.length_toList]
  show (T.extract p q).size = _
  rw [ByteArray.size_extract]
  omega
theorem claim_fit (T : ByteArray) (hs : T.size = 1024) : (claim T).Fit := by
  have h1 := numB_lt (T.extract 12 16).data.toList
  rw [ext_len T 12 16 (by decide) (by omega)] at h1
  have h2 := numB_lt (T.extract 0 8).data.toList
  rw [ext_len T 0 8 (by decide) (by omega)] at h2
  exact ⟨Nat.mod_lt _ (by decide), h1, h2⟩
set_option maxRecDepth 100000 in
set_option maxHeartbeats 2000000 in
theorem pClaimed (l : List UInt8) (hl : l.length = 1024) (w : World) :
    Calls Tryd.prog 62 #[.agg (img l)] w fun e w' => e = .returned (.agg (claim ⟨l.toArray⟩).cs) ∧ Below w.heap.size w w' := by
  obtain ⟨N, hN⟩ : ∃ N, N = w.heap.size := ⟨_, rfl⟩
  have HN := hide hN
  obtain ⟨T, hT⟩ : ∃ T : ByteArray, T = ⟨l.toArray⟩ := ⟨_, rfl⟩
  have hTs : T.size = 1024 := by rw [← size_toList, hT]; exact hl
  have HTl := hide (And.intro hT hl)
  rw [← hT]
  have hz : ((Tryd.prog.info? 70).bind (·.zero)).map (·.cells) = some #[.int .u8 0, .int .u32 0, .int .u64 0, .string ⟨#[]⟩] := by kernel_rfl
  have HZ := hide hz
  clear hN hT hz
  go_enter Tryd.func62, Tryd.ntmps62
  go_wp2_with (first
    | (refine wpList_box_row (by rfl) 126 (.tmp 0) (by rfl) (some 1) (by rfl) N (by exact (unhide HN).symm) (img l) (by rfl) ?_; intro W1 HX1 HB1 HS1; simp only [Act.put, List.setIfInBounds_toArray, List.set_cons_zero, List.set_cons_succ])
    | (refine wpList_alloc_row (by rfl) 70 (by rfl) (some 2) (by rfl) (N + 1) (by exact unhide HS1) _ (unhide HZ) ?_; intro W2 HX2 HB2 HS2; simp only [Act.put, List.setIfInBounds_toArray, List.set_cons_zero, List.set_cons_succ]; have hal := slAll N; have hcv := conv_img (hX := ((unhide HB2).block N (by omega)).trans (unhide HX1)) (unhide HTl).2; rw [← (unhide HTl).1] at hcv))
  clear hal hcv
  refine (rNew T W2).mono ?_
  rintro e W3 ⟨rfl, hw3⟩
  have HR3 : Hid (Rd W3 (N + 1 + 1) T 0 0 ∧ W3.heap.size = N + 1 + 1 + 1 ∧ Below (N + 1 + 1) W2 W3) := by
    have hs2 := unhide HS2
    rw [hw3]
    refine ⟨?_, by simp; omega, ?_⟩
    · have := Rd.new T W2 148 (by rw [hTs]; decide)
      rwa [hs2] at this
    · have := (Below.refl W2.heap.size W2).alloc (Nat.le_refl _) (.cells #[.string T, .int .i64 0, .int .i64 0] 148)
      rwa [hs2] at this
  rw [show W2.heap.size = N + 1 + 1 from unhide HS2]
  clear hw3
  go_wp2_with (first
    | (refine wpList_alloc_row (by rfl) 70 (by rfl) (some 4) (by rfl) (N + 1 + 1 + 1) (by exact (unhide HR3).2.1) _ (unhide HZ) ?_; intro W4 HX4 HB4 HS4; simp only [Act.put, List.setIfInBounds_toArray, List.set_cons_zero, List.set_cons_succ]))
  have HC : Hid (Cm w W4 (N + 1) (N + 1 + 1) (N + 1 + 1 + 1) T 0 0 #[.int .u8 0, .int .u32 0, .int .u64 0, .string ⟨#[]⟩]) := by
    have h1 := unhide HB1
    have h2 := unhide HB2
    obtain ⟨h3, h4, h5⟩ := unhide HR3
    have h6 := unhide HB4
    have hN := unhide HN
    refine ⟨h3.same h6.size (h6.block (N + 1 + 1) (by omega)), unhide HX4, (h6.block (N + 1) (by omega)).trans ((h5.block (N + 1) (by omega)).trans (unhide HX2)), by omega, by omega, by omega, by omega, by omega, by omega, ?_⟩
    rw [← hN]
    exact ((h1.trans (h2.mono (by omega))).trans (h5.mono (by omega))).trans (h6.mono (by omega))
  clear HX1 HX2 HX4 HB1 HB2 HB4 HS1 HS2 HS4 HR3
  generalize N + 1 + 1 + 1 = Q at *
  generalize N + 1 + 1 = A at *
  generalize N + 1 = R at *
  obtain ⟨sr, hsr⟩ : ∃ k, k = numB (T.extract 0 8).data.toList := ⟨_, rfl⟩
  obtain ⟨kd, hkd⟩ : ∃ k, k = numB (T.extract 8 9).data.toList % 256 := ⟨_, rfl⟩
  obtain ⟨ln, hln⟩ : ∃ k, k = numB (T.extract 10 12).data.toList := ⟨_, rfl⟩
  obtain ⟨nm, hnm⟩ : ∃ k, k = numB (T.extract 12 16).data.toList := ⟨_, rfl⟩
  obtain ⟨bd, hbd⟩ : ∃ k, k = (rawS T 20 0 (ln : Nat)).1 := ⟨_, rfl⟩
  have HCL : Hid ((claim T).cs = #[.int .u8 (kd : Int), .int .u32 (nm : Int), .int .u64 (sr : Int), .string bd]) := by
    show (claim T).cs = _
    rw [hbd, hln, hsr, hkd, hnm]
    rfl
  have hlnB : (ln : Int) < 65536 := by
    have h := numB_lt (T.extract 10 12).data.toList
    rw [ext_len T 10 12 (by decide) (by omega)] at h
    have : (256 : Nat) ^ (12 - 10) = 65536 := rfl
    omega
  have hnmB : (nm : Int) < 4294967296 := by
    have h := numB_lt (T.extract 12 16).data.toList
    rw [ext_len T 12 16 (by decide) (by omega)] at h
    have : (256 : Nat) ^ (16 - 12) = 4294967296 := rfl
    omega
  have HK1 : Hid (∀ u, Rd u A T 0 0 → Calls Tryd.prog 70 #[.pointer (some ⟨A, 0, none⟩), .int .i64 8] u fun e w' => e = .returned (.int .u64 (sr : Int)) ∧ Rt u w' A T 8 0) := fun u hu => by
    have h := rFixed A T 0 0 8 u hu
    rw [show fixS T 0 0 8 = _ from fixS_at T 0 8 (by decide) (by decide) (by omega), ← hsr] at h
    exact h
  have HK2 : Hid (∀ u, Rd u A T 8 0 → Calls Tryd.prog 71 #[.pointer (some ⟨A, 0, none⟩)] u fun e w' => e = .returned (.int .u8 (kd : Int)) ∧ Rt u w' A T 9 0) := fun u hu => by
    have h := rByte A T 8 0 u hu
    rw [show fixS T 8 0 1 = _ from fixS_at T 8 1 (by decide) (by decide) (by omega)] at h
    rw [hkd]
    exact h
  obtain ⟨x9, HK3⟩ : ∃ x9 : Nat, Hid (∀ u, Rd u A T 9 0 → Calls Tryd.prog 71 #[.pointer (some ⟨A, 0, none⟩)] u fun e w' => e = .returned (.int .u8 (x9 : Int)) ∧ Rt u w' A T 10 0) := ⟨_, fun u hu => by
    have h := rByte A T 9 0 u hu
    rw [show fixS T 9 0 1 = _ from fixS_at T 9 1 (by decide) (by decide) (by omega)] at h
    exact h⟩
  have HK4 : Hid (∀ u, Rd u A T 10 0 → Calls Tryd.prog 70 #[.pointer (some ⟨A, 0, none⟩), .int .i64 2] u fun e w' => e = .returned (.int .u64 (ln : Int)) ∧ Rt u w' A T 12 0) := fun u hu => by
    have h := rFixed A T 10 0 2 u hu
    rw [show fixS T 10 0 2 = _ from fixS_at T 10 2 (by decide) (by decide) (by omega), ← hln] at h
    exact h
  have HK5 : Hid (∀ u, Rd u A T 12 0 → Calls Tryd.prog 70 #[.pointer (some ⟨A, 0, none⟩), .int .i64 4] u fun e w' => e = .returned (.int .u64 (nm : Int)) ∧ Rt u w' A T 16 0) := fun u hu => by
    have h := rFixed A T 12 0 4 u hu
    rw [show fixS T 12 0 4 = _ from fixS_at T 12 4 (by decide) (by decide) (by omega), ← hnm] at h
    exact h
  obtain ⟨t6, HK6⟩ : ∃ t6, Hid (∀ u, Rd u A T 16 0 → Calls Tryd.prog 72 #[.pointer (some ⟨A, 0, none⟩), .int .i64 4] u fun e w' => e = .returned (.string t6) ∧ Rt u w' A T 20 0) := ⟨_, fun u hu => by
    have h := rRaw A T 16 0 4 u hu
    rw [show (rawS T 16 0 4).2 = _ from rawS_at T 16 4 (by omega)] at h
    exact h⟩
  obtain ⟨p7, e7, HK7⟩ : ∃ p7 e7, Hid (∀ u, Rd u A T 20 0 → Calls Tryd.prog 72 #[.pointer (some ⟨A, 0, none⟩), .int .i64 (ln : Int)] u fun e w' => e = .returned (.string bd) ∧ Rt u w' A T p7 e7) := ⟨_, _, fun u hu => by
    rw [hbd]
    exact rRaw A T 20 0 (ln : Nat) u hu⟩
  have v1 : IntKind.i64.wrap (ln : Int) = (ln : Int) := wrap_small _ (by omega) (by omega)
  have v2 : IntKind.u32.wrap (nm : Int) = (nm : Int) := by rw [IntKind.wrap_u32]; omega
  clear hsr hkd hln hnm hbd hTs hl
  go_wp2_with fail
  refine (unhide HK1 _ (unhide HC).rd).mono ?_
  rintro e V5 ⟨rfl, hr⟩
  have HCn := hide ((unhide HC).read hr)
  clear HC hr
  have HC := hide (unhide HCn)
  clear HCn
  have c0 := (unhide HC).cell 0
  have c1 := (unhide HC).cell 1
  have c2 := (unhide HC).cell 2
  have c3 := (unhide HC).cell 3
  simp only [List.getElem?_toArray, List.getElem?_cons_zero, List.getElem?_cons_succ] at c0 c1 c2 c3
  have hf := (unhide HC).fz 2
  have HCn := hide ((unhide HC).store 2 (.int .u64 (sr : Int)))
  simp only [List.setIfInBounds_toArray, List.set_cons_zero, List.set_cons_succ] at HCn
  go_wp2_with fail
  generalize V5.setCell ⟨Q, 2, none⟩ (.int .u64 (sr : Int)) = U5 at *
  clear c0 c1 c2 c3 hf HC
  have HC := hide (unhide HCn)
  clear HCn
  refine (unhide HK2 _ (unhide HC).rd).mono ?_
  rintro e V6 ⟨rfl, hr⟩
  have HCn := hide ((unhide HC).read hr)
  clear HC hr
  have HC := hide (unhide HCn)
  clear HCn
  have c0 := (unhide HC).cell 0
  have c1 := (unhide HC).cell 1
  have c2 := (unhide HC).cell 2
  have c3 := (unhide HC).cell 3
  simp only [List.getElem?_toArray, List.getElem?_cons_zero, List.getElem?_cons_succ] at c0 c1 c2 c3
  have hf := (unhide HC).fz 0
  have HCn := hide ((unhide HC).store 0 (.int .u8 (kd : Int)))
  simp only [List.setIfInBounds_toArray, List.set_cons_zero] at HCn
  go_wp2_with fail
  generalize V6.setCell ⟨Q, 0, none⟩ (.int .u8 (kd : Int)) = U6 at *
  clear c0 c1 c2 c3 hf HC
  have HC := hide (unhide HCn)
  clear HCn
  refine (unhide HK3 _ (unhide HC).rd).mono ?_
  rintro e V7 ⟨rfl, hr⟩
  have HCn := hide ((unhide HC).read hr)
  clear HC hr
  have HC := hide (unhide HCn)
  clear HCn
  have c0 := (unhide HC).cell 0
  have c1 := (unhide HC).cell 1
  have c2 := (unhide HC).cell 2
  have c3 := (unhide HC).cell 3
  simp only [List.getElem?_toArray, List.getElem?_cons_zero, List.getElem?_cons_succ] at c0 c1 c2 c3
  go_wp2_with fail
  clear c0 c1 c2 c3
  refine (unhide HK4 _ (unhide HC).rd).mono ?_
  rintro e V8 ⟨rfl, hr⟩
  have HCn := hide ((unhide HC).read hr)
  clear HC hr
  have HC := hide (unhide HCn)
  clear HCn
  have c0 := (unhide HC).cell 0
  have c1 := (unhide HC).cell 1
  have c2 := (unhide HC).cell 2
  have c3 := (unhide HC).cell 3
  simp only [List.getElem?_toArray, List.getElem?_cons_zero, List.getElem?_cons_succ] at c0 c1 c2 c3
  go_wp2_with fail
  clear c0 c1 c2 c3
  refine (unhide HK5 _ (unhide HC).rd).mono ?_
  rintro e V9 ⟨rfl, hr⟩
  have HCn := hide ((unhide HC).read hr)
  clear HC hr
  have HC := hide (unhide HCn)
  clear HCn
  have c0 := (unhide HC).cell 0
  have c1 := (unhide HC).cell 1
  have c2 := (unhide HC).cell 2
  have c3 := (unhide HC).cell 3
  simp only [List.getElem?_toArray, List.getElem?_cons_zero, List.getElem?_cons_succ] at c0 c1 c2 c3
  have hf := (unhide HC).fz 1
  have HCn := hide ((unhide HC).store 1 (.int .u32 (nm : Int)))
  simp only [List.setIfInBounds_toArray, List.set_cons_zero, List.set_cons_succ] at HCn
  go_wp2_with fail
  generalize V9.setCell ⟨Q, 1, none⟩ (.int .u32 (nm : Int)) = U9 at *
  clear c0 c1 c2 c3 hf HC
  have HC := hide (unhide HCn)
  clear HCn
  refine (unhide HK6 _ (unhide HC).rd).mono ?_
  rintro e V10 ⟨rfl, hr⟩
  have HCn := hide ((unhide HC).read hr)
  clear HC hr
  have HC := hide (unhide HCn)
  clear HCn
  have c0 := (unhide HC).cell 0
  have c1 := (unhide HC).cell 1
  have c2 := (unhide HC).cell 2
  have c3 := (unhide HC).cell 3
  simp only [List.getElem?_toArray, List.getElem?_cons_zero, List.getElem?_cons_succ] at c0 c1 c2 c3
  go_wp2_with fail
  clear c0 c1 c2 c3
  refine (unhide HK7 _ (unhide HC).rd).mono ?_
  rintro e V11 ⟨rfl, hr⟩
  rename_i K1 hK1 K2 hK2
  have HKK := hide hK1
  clear hK1
  have HCn := hide ((unhide HC).read hr)
  clear HC hr
  have HC := hide (unhide HCn)
  clear HCn
  have c3 := (unhide HC).cell 3
  simp only [List.getElem?_toArray, List.getElem?_cons_zero, List.getElem?_cons_succ] at c3
  have hf := (unhide HC).fz 3
  have HCn := hide ((unhide HC).store 3 (.string bd))
  simp only [List.setIfInBounds_toArray, List.set_cons_zero, List.set_cons_succ] at HCn
  go_wp2
  refine unhide HKK _ _ ?_
  clear HKK c3 hf HC
  generalize V11.setCell ⟨Q, 3, none⟩ (.string bd) = V12 at *
  have HRG : Hid (V12.rangeAt Q 0 [.int .u8 (kd : Int), .int .u32 (nm : Int), .int .u64 (sr : Int), .string bd]) := by
    intro t v hv
    rw [Nat.zero_add, (unhide HCn).cell t, List.getElem?_toArray]
    exact hv
  have HPI : Hid ((Tryd.prog.info? 70).map (·.size) = some 4) := by show _ = _; kernel_rfl
  go_wp2_with (first
    | (refine wpList_load_mid (by rfl) 70 (.tmp 4) (by rfl) Q 0 (by rfl) [.int .u8 (kd : Int), .int .u32 (nm : Int), .int .u64 (sr : Int), .string bd] _ (unhide HRG) Tryd.underlying70 (by rfl) (unhide HPI) ?_; simp only [Act.put, List.setIfInBounds_toArray, List.set_cons_zero, List.set_cons_succ])
    | (refine wpList_store_hid (by rfl) 70 (.tmp 2) (.tmp 30) (by rfl) R #[.int .u8 (kd : Int), .int .u32 (nm : Int), .int .u64 (sr : Int), .string bd] (by rfl) (by rfl) 70 _ (unhide HCn).r (unhide HPI) (by rfl) (by rw [Array.all_eq_true']; intro v hv; simp only [List.mem_toArray, List.mem_cons, List.not_mem_nil, or_false] at hv; rcases hv with rfl | rfl | rfl | rfl <;> rfl) ?_; intro W9 HR9 HE9; simp only [Act.put]))
  refine bodyPost_ret (results_cell_row rfl _ _ R 70 #[.int .u8 (kd : Int), .int .u32 (nm : Int), .int .u64 (sr : Int), .string bd] (0, 0) _ rfl (unhide HR9) Tryd.underlying70 rfl (unhide HPI)) rfl ?_
  rw [unhide HCL]
  refine ⟨rfl, ?_⟩
  rw [unhide HE9]
  exact belowRow (unhide HCn).bel (unhide HCn).gr _
end Go.Proofs.YtfdfbjijomepgaaDoor

