/- The journal: Scan, on a disk that has its power. -/
import Derived.Test.YtfdfbjijomepgaaDoorJl
namespace Go.Proofs.YtfdfbjijomepgaaDoor
open Go.RowKit

noncomputable def liesL (pg : Nat → List UInt8) (f k : Nat) : List Pg := (List.range k).map fun i => (dec (pg (f + i)) (f + i)).1
def topK (pg : Nat → List UInt8) (f : Nat) : Nat → Nat
  | 0 => 0
  | k + 1 => max (max (topK pg f k) (hd8 (pg (f + k)))) (tl8 (pg (f + k)))
def roomN (c : Nat) : Nat := min (c - 1) 198
noncomputable def hdrOf (pg : Nat → List UInt8) (f : Nat) : Pg := (dec (pg f) f).1
noncomputable def slotsOf (pg : Nat → List UInt8) (f c : Nat) : List Pg := (List.range (roomN c)).map fun i => (dec (pg (f + 1 + i)) (f + 1 + i)).1
theorem slotsOf_len (pg : Nat → List UInt8) (f c : Nat) : (slotsOf pg f c).length = roomN c := by simp [slotsOf]
theorem liesL_len (pg : Nat → List UInt8) (f k : Nat) : (liesL pg f k).length = k := by simp [liesL]
theorem liesL_split (pg : Nat → List UInt8) (f c : Nat) : liesL pg f (roomN c + 1) = hdrOf pg f :: slotsOf pg f c := by
  rw [liesL, List.range_succ_eq_map, List.map_cons, List.map_map]
  refine congr (congrArg _ rfl) (List.map_congr_left fun i _ => ?_)
  show (dec (pg (f + (i + 1))) (f + (i + 1))).1 = _
  rw [show f + (i + 1) = f + 1 + i from by omega]
theorem liesL_succ (pg : Nat → List UInt8) (f k : Nat) : liesL pg f (k + 1) = liesL pg f k ++ [(dec (pg (f + k)) (f + k)).1] := by
  simp [liesL, List.range_succ]
theorem dec_fit (l : List UInt8) (n : Nat) : (dec l n).1.body.size ≤ 996 := by
  unfold dec
  split
  · exact Nat.zero_le _
  · split
    · exact Nat.zero_le _
    · split
      · rename_i h
        exact (Pg.may h.2.1).2
      · exact Nat.zero_le _
theorem hd8_lt (l : List UInt8) : hd8 l < 18446744073709551616 := by
  have := numB_lt (l.take 8)
  refine Nat.lt_of_lt_of_le this (Nat.le_trans (Nat.pow_le_pow_right (by decide) (List.length_take_le 8 l)) (by decide))
theorem tl8_lt (l : List UInt8) (hl : l.length = 1024) : tl8 l < 18446744073709551616 := by
  have := numB_lt (l.drop 1016)
  rw [List.length_drop, hl] at this
  exact this
/-- cells of pages, one behind the other -/
def flatP (l : List Pg) : List Value := l.flatMap fun p => p.cs.toList
theorem flatP_len (l : List Pg) : (flatP l).length = l.length * 4 := by
  induction l with
  | nil => rfl
  | cons p l ih =>
    have : (flatP (p :: l)).length = 4 + (flatP l).length := by simp [flatP, Pg.cs]; omega
    rw [this, ih, List.length_cons]
    omega
theorem flatP_at : ∀ (l : List Pg) (j : Nat) (hj : j < l.length) (k : Nat), k < 4 → (flatP l)[j * 4 + k]? = (l[j].cs)[k]?
  | [], _, hj, _, _ => absurd hj (by simp)
  | p :: l, 0, _, k, hk => by
    have : flatP (p :: l) = p.cs.toList ++ flatP l := rfl
    rw [this, Nat.zero_mul, Nat.zero_add, List.getElem?_append_left (by show k < 4; exact hk), Array.getElem?_toList]
    rfl
  | p :: l, j + 1, hj, k, hk => by
    have h0 : flatP (p :: l) = p.cs.toList ++ flatP l := rfl
    have h4 : p.cs.toList.length = 4 := rfl
    rw [h0, List.getElem?_append_right (by rw [h4]; omega), h4, show (j + 1) * 4 + k - 4 = j * 4 + k from by omega, flatP_at l j (by simpa using hj) k hk]
    rfl
theorem own_pgs {u : World} {base : Nat} {v : Value} {l : List Pg} (h : u.ownsRow base 70 4 v l.length (flatP l)) (h0 : 0 < l.length) : ∃ g cap, v = .slice (some ⟨g, 0, none⟩) l.length cap ∧ l.length ≤ cap ∧ base ≤ g ∧ g < u.heap.size ∧ ∀ (j : Nat) (hj : j < l.length) (k : Nat), k < 4 → u.cell? ⟨g, j * 4 + k, none⟩ = (l[j].cs)[k]? := by
  rcases h.2 with ⟨_, hn⟩ | ⟨g, cap, cur, rfl, hg, hb, hc, _⟩
  · omega
  · exact ⟨g, cap, rfl, hc, hg, (Array.getElem?_eq_some_iff.1 hb).1, fun j hj k hk => by rw [h.cellAt (j * 4 + k) (by omega), flatP_at l j hj k hk]⟩
theorem cutPages (g m c : Nat) (hm : 1 ≤ m) (W : World) : (Instr.slice 25 (.slice (some ⟨g, 0, none⟩) m c) (some (.int .i64 1)) none none).run Tryd.prog W = .ok (.slice (some ⟨g, if c = 1 then 0 else 4, none⟩) (m - 1) (c - 1)) W := by
  have he : Tryd.prog.elem 25 = 70 := by kernel_rfl
  rw [run_slice_l W 25 _ _ _ (by rw [he]; exact apUnd) .i64 1 (by omega) (by omega), he, sizeJ (n := 4) (by kernel_rfl)]
  simp only [Result.andThen_ok, sliced]
  show Result.ok (Value.slice (if c = 1 then _ else _) (m - 1) (c - 1)) W = _
  split
  · rfl
  · rw [Option.map_some, Addr.add_mid]
    rfl
theorem info_parts4 : ∃ i, Tryd.prog.info? 70 = some i ∧ i.zero = some (.agg #[.int .u8 0, .int .u32 0, .int .u64 0, .string ⟨#[]⟩]) ∧ i.size = 4 ∧ i.bytes = 32 := by
  have h : (Tryd.prog.info? 70).map (fun i => (i.zero, i.size, i.bytes)) = some (some (.agg #[.int .u8 0, .int .u32 0, .int .u64 0, .string ⟨#[]⟩]), 4, 32) := by kernel_rfl
  obtain ⟨i, hi, h2⟩ := Option.map_eq_some_iff.1 h
  simp only [Prod.mk.injEq] at h2
  exact ⟨i, hi, h2⟩
theorem zeroFound : ((Tryd.prog.info? 44).bind (·.zero)).map (·.cells) = some #[.int .u64 0, .bool false, .int .u64 0, .slice none 0 0] := by kernel_rfl
theorem foundUnd : Tryd.prog.underlying 44 = some (.struct (match Tryd.prog.underlying 44 with | some (.struct fs) => fs | _ => #[])) := by kernel_rfl
theorem found_one (a : Int) (b : Bool) (c : Int) (p : Option Addr) (m n : Nat) : (#[.int .u64 a, .bool b, .int .u64 c, .slice p m n] : Array Value).all (·.oneCell') = true := by
  rw [Array.all_eq_true']
  intro v hv
  simp only [List.mem_toArray, List.mem_cons, List.not_mem_nil, or_false] at hv
  rcases hv with rfl | rfl | rfl | rfl <;> rfl
theorem foundInfo : (Tryd.prog.info? 44).map (·.size) = some 4 := by kernel_rfl
theorem own_same {u u' : World} {base n : Nat} {e : TypeId} {size : Nat} {v : Value} {xs : List Value} (h : u.ownsRow base e size v n xs) (hk : ∀ g, base ≤ g → v.ownBlock = some g → u'.heap[g]? = u.heap[g]?) : u'.ownsRow base e size v n xs := by
  refine ⟨h.1, ?_⟩
  rcases h.2 with h2 | ⟨g, cap, cur, rfl, hg, hb, h3⟩
  · exact .inl h2
  · exact .inr ⟨g, cap, cur, rfl, hg, (hk g hg rfl).trans hb, h3⟩
theorem own_succ4 {u : World} {base n : Nat} {e : TypeId} {size : Nat} {v : Value} {xs : List Value} (h : u.ownsRow base e size v (n + 1) xs) : ∃ g cap, v = .slice (some ⟨g, 0, none⟩) (n + 1) cap := by
  rcases h.2 with ⟨_, hn⟩ | ⟨g, cap, cur, rfl, _⟩
  · omega
  · exact ⟨g, cap, rfl⟩
theorem own_lt {u : World} {base n : Nat} {e : TypeId} {size : Nat} {v : Value} {xs : List Value} (h : u.ownsRow base e size v n xs) {g : Nat} (hk : v.ownBlock = some g) : base ≤ g ∧ g < u.heap.size := by
  rcases h.2 with ⟨rfl, _⟩ | ⟨g', cap, cur, rfl, hg, hb, _⟩
  · simp [Value.ownBlock] at hk
  · simp [Value.ownBlock] at hk
    subst hk
    exact ⟨hg, (Array.getElem?_eq_some_iff.1 hb).1⟩
theorem four_new (W : World) (a b c d : Value) (t : TypeId) : ∀ j u, [a, b, c, d][j]? = some u → (W.alloc (.cells #[a, b, c, d] t)).cell? ((⟨W.heap.size, 0, none⟩ : Addr).add j) = some u := by
  intro j u hu
  have h := heap_alloc_new W (.cells #[a, b, c, d] t)
  have hc : (W.alloc (.cells #[a, b, c, d] t)).cell? ⟨W.heap.size, j, none⟩ = (#[a, b, c, d] : Array Value)[j]? := cellOf h j
  rw [Addr.add_mid, Nat.zero_add, hc, ← Array.getElem?_toList]
  exact hu
/-- what the loop of Scan keeps -/
structure Sc (u wr : World) (N : Nat) (v : Value) (pg : Nat → List UInt8) (f k kl : Nat) : Prop where
  res : wr.heap[N]? = some (.cells #[.int .u64 0, .bool false, .int .u64 0, .slice none 0 0] 44 (0, 0))
  fnd : wr.heap[N + 1]? = some (.cells #[.int .u64 (topK pg f k : Int), .bool false, .int .u64 0, .slice none 0 0] 44 (0, 0))
  row : wr.ownsRow (N + 2) 70 4 v kl (flatP (liesL pg f kl))
  bel : Below N u wr
theorem topK_lt {pg : Nat → List UInt8} {f : Nat} (hl : ∀ k, (pg (f + k)).length = 1024) : ∀ k, topK pg f k < 18446744073709551616
  | 0 => by rw [topK]; omega
  | k + 1 => by
    have h1 := topK_lt hl k
    have h2 := hd8_lt (pg (f + k))
    have h3 := tl8_lt (pg (f + k)) (hl k)
    rw [topK]
    omega
section
variable {B : Nat} {u : World} {Dd : Nat} {F : List Nat} {d : D.Dk}
set_option maxRecDepth 100000 in
set_option maxHeartbeats 4000000 in
theorem jScan (h : D.Dsk B u Dd F d) (hoff : d.off = false) (hm : d.pend.length ≤ 1000000000) (hT : Tab u) (f c : Nat) (hr : refJ (f : Int) (c : Int) d.lies.length = 0) :
    Calls Tryd.prog 12 #[.iface 50 (.pointer (some ⟨Dd, 0, none⟩)), .int .i64 (f : Int), .int .i64 (c : Int)] u fun e u' =>
      (batchOk (hdrOf d.page f) (slotsOf d.page f c) → ∃ G, e = .returned (.tuple #[.agg #[.int .u64 (topK d.page f c : Int), .bool true, .int .u64 ((hdrOf d.page f).ser : Int), .slice (some ⟨G, 0, none⟩) (batchL (hdrOf d.page f) (slotsOf d.page f c)).length (batchL (hdrOf d.page f) (slotsOf d.page f c)).length], .int .i64 0]) ∧ u.heap.size ≤ G ∧ Rp u' G (batchL (hdrOf d.page f) (slotsOf d.page f c))) ∧
      (¬ batchOk (hdrOf d.page f) (slotsOf d.page f c) → e = .returned (.tuple #[.agg #[.int .u64 (topK d.page f c : Int), .bool false, .int .u64 0, .slice none 0 0], .int .i64 0])) ∧ Below u.heap.size u u' := by
  obtain ⟨N, hN⟩ : ∃ N, N = u.heap.size := ⟨_, rfl⟩
  have HN := hide hN
  have hfc : f + c ≤ d.lies.length ∧ d.lies.length ≤ 4096 ∧ 1 ≤ c := by
    have h2 := h.ok.max
    unfold refJ at hr
    split at hr
    · cases hr
    · omega
  have HFC := hide hfc
  have HRF := hide (fun (v : World) (hv : Below u.heap.size u v) => jRefused (h.below hv) (f : Int) (c : Int))
  rw [hr] at HRF
  have HRD := hide (fun (v : World) (hv : Below u.heap.size u v) (i : Nat) (hi : i < d.lies.length) => D.kReadD (h.below hv) i hi hoff (by omega))
  have HPL : Hid (∀ i, i < d.lies.length → (d.page i).length = 1024) := fun i hi => h.ok.page_len i hi
  have HTB := hide hT
  obtain ⟨r, hr0⟩ : ∃ r, r = roomN c := ⟨_, rfl⟩
  have HRM : Hid (∀ v, Calls Tryd.prog 17 #[.int .i64 (c : Int)] v fun e u' => e = .returned (.int .i64 (r : Int)) ∧ u' = v) := fun v => by
    have := jRoom (c : Int) (by omega) v
    have e : room (c : Int) = (r : Int) := by
      rw [hr0, roomN, room]
      split
      · omega
      · split <;> omega
    rwa [e] at this
  have HR0 := hide hr0
  have hci : (c : Int) ≤ 4096 := by omega
  have hfi : (f : Int) ≤ 4096 := by omega
  have hri : (r : Int) ≤ 198 := by rw [hr0, roomN]; omega
  rw [← hN]
  clear hN h hoff hm hT hr hfc hr0
  generalize d.page = pg at *
  generalize d.lies.length = Pn at *
  obtain ⟨i0, hi, hz0, hz1, hz2⟩ := info_parts4
  go_enter Tryd.func12, Tryd.ntmps12
  go_wp2_with (first
    | (refine wpList_alloc_row (by rfl) 44 (by rfl) (some 6) (by rfl) N (by exact (unhide HN).symm) _ zeroFound ?_; intro W1 HX1 HB1 HS1; simp only [Act.put, List.setIfInBounds_toArray, List.set_cons_zero, List.set_cons_succ])
    | (go_at_call 28; refine (unhide HRF _ (by rw [← unhide HN]; exact unhide HB1)).mono ?_; rintro e w1 ⟨rfl, hw⟩; obtain rfl := hw.symm; clear hw)
    | (refine wpList_alloc_row (by rfl) 44 (by rfl) (some 9) (by rfl) (N + 1) (by exact unhide HS1) _ zeroFound ?_; intro W2 HX2 HB2 HS2; simp only [Act.put, List.setIfInBounds_toArray, List.set_cons_zero, List.set_cons_succ]))
  have HSC : Hid (Sc u W2 N (.slice none 0 0) pg f 0 0) := by
    have hb : Below N u W2 := by
      rw [unhide HN] at *
      exact (unhide HB1).trans ((unhide HB2).mono (by omega))
    exact ⟨((unhide HB2).block N (by omega)).trans (unhide HX1), unhide HX2, World.ownsRow_nil _ _ _ _, hb⟩
  clear HX1 HB1 HS1 HX2 HB2 HS2
  go_loopw [10, 30] (fun v i wr => ∃ (k kl : Nat), k ≤ c ∧ kl = min k (r + 1) ∧ i = .int .i64 k ∧ Hid (Sc u wr N v pg f k kl)) (fun _ i _ => c - (intOf i).toNat)
  case atStart => exact ⟨0, 0, Nat.zero_le _, by omega, rfl, unhide HSC⟩
  case round =>
    clear HSC
    obtain ⟨k, kl, hk, hkl, rfl, HI⟩ := hrel
    have HKL := hide hkl
    clear hkl
    by_cases hlt : k < c
    · have hki : (k : Int) < (c : Int) := by omega
      have hfk : f + k < Pn := by have := unhide HFC; omega
      have hw1 : IntKind.i64.wrap ((f : Int) + (k : Int)) = (f : Int) + (k : Int) := by rw [IntKind.wrap_i64]; omega
      have HRK := hide (unhide HRD wr (by rw [← unhide HN]; exact (unhide HI).bel) (f + k) hfk)
      rw [show ((f + k : Nat) : Int) = (f : Int) + (k : Int) from by omega] at HRK
      have hpl := unhide HPL (f + k) hfk
      obtain ⟨l, hl⟩ : ∃ l, l = pg (f + k) := ⟨_, rfl⟩
      rw [← hl] at HRK hpl
      have HLE := hide hl
      have HPL2 := hide hpl
      obtain ⟨M, hM⟩ : ∃ M, M = wr.heap.size := ⟨_, rfl⟩
      have HM := hide hM
      rw [← hM] at HRK
      clear hl hpl hM
      go_wp2_with fail
      refine (unhide HRK).mono ?_
      rintro e w3 ⟨rfl, hx3, hb3, hs3⟩
      have HX3 := hide hx3
      have HB3 : Hid (Below M wr w3) := hb3
      have HCL : Hid (∀ (j : Nat) (hj : j < l.length), w3.cell? ⟨M, 0 + j, none⟩ = some (.int .u8 (l[j].toNat : Int))) := fun j hj => by
        rw [Nat.zero_add, cellOf hx3]
        simp [D.img, Lib.byteCells, hj]
      have HML : Hid (M < w3.heap.size) := (Array.getElem?_eq_some_iff.1 hx3).1
      have HEN := hide (pEnds l (unhide HPL2) M 0 1024 (Nat.le_refl _) (by decide) w3 (unhide HML) (unhide HCL))
      clear hx3 hb3 hs3 HRK
      go_wp2_with fail
      refine (unhide HEN).mono ?_
      rintro e w4 ⟨rfl, hb4⟩
      have HB4 := hide hb4
      clear hb4 HEN
      obtain ⟨T0, hT0⟩ : ∃ z, z = topK pg f k := ⟨_, rfl⟩
      have hc0 : w4.cell? ⟨N + 1, 0, none⟩ = some (.int .u64 (T0 : Int)) := by
        have h1 := (unhide HI).fnd
        have h2 := (Array.getElem?_eq_some_iff.1 h1).1
        have h3 := ((unhide HB4).block (N + 1) (by have := (unhide HB3).size; omega)).trans (((unhide HB3).block (N + 1) (by rw [unhide HM]; exact h2)).trans h1)
        rw [cellOf h3, hT0]
        rfl
      have hf0 : w4.frozen? ⟨N + 1, 0, none⟩ = false := by
        have h1 := (unhide HI).fnd
        have h2 := (Array.getElem?_eq_some_iff.1 h1).1
        have h3 := ((unhide HB4).block (N + 1) (by have := (unhide HB3).size; omega)).trans (((unhide HB3).block (N + 1) (by rw [unhide HM]; exact h2)).trans h1)
        simp [World.frozen?, h3]
      have HT0 := hide hT0
      obtain ⟨a1, ha1⟩ : ∃ z, z = hd8 l := ⟨_, rfl⟩
      obtain ⟨a2, ha2⟩ : ∃ z, z = tl8 l := ⟨_, rfl⟩
      rw [← ha1, ← ha2]
      have HA12 := hide (And.intro ha1 ha2)
      clear hT0 ha1 ha2
      obtain ⟨Tm, hTm⟩ : ∃ z, z = max (max T0 a1) a2 := ⟨_, rfl⟩
      have HTM := hide hTm
      have hmax : ∀ (ts : Array TypeId) (t : TypeId) (W : World), (Builtin.max_ ts t #[.int .u64 (T0 : Int), .int .u64 (a1 : Int), .int .u64 (a2 : Int)]).run Tryd.prog W = .ok (.int .u64 (Tm : Int)) W := fun ts t W => by
        rw [run_max_int3]
        congr 2
        rw [hTm]
        split <;> split at * <;> omega
      clear hTm
      go_wp2_with fail
      obtain ⟨w5, hw5⟩ : ∃ z, z = w4.setCell ⟨N + 1, 0, none⟩ (.int .u64 (Tm : Int)) := ⟨_, rfl⟩
      have hNM : N + 1 < M := by rw [unhide HM]; exact (Array.getElem?_eq_some_iff.1 (unhide HI).fnd).1
      have hb34 : Below M wr w4 := (unhide HB3).trans ((unhide HB4).mono (by have := (unhide HB3).size; rw [unhide HM]; exact this))
      have hsz5 : w5.heap.size = w4.heap.size := by rw [hw5]; simp [World.setCell]
      have hblk5 : ∀ q, q ≠ N + 1 → w5.heap[q]? = w4.heap[q]? := fun q hq => by rw [hw5]; exact Deep.blk_setCell_other w4 ⟨N + 1, 0, none⟩ _ q hq
      have HTK : Hid (topK pg f (k + 1) = Tm) := by show _ = _; rw [topK, ← unhide HLE, ← unhide HT0, ← (unhide HA12).1, ← (unhide HA12).2, unhide HTM]
      have HS5 : Hid (w5.heap[N]? = some (.cells #[.int .u64 0, .bool false, .int .u64 0, .slice none 0 0] 44 (0, 0)) ∧ w5.heap[N + 1]? = some (.cells #[.int .u64 (Tm : Int), .bool false, .int .u64 0, .slice none 0 0] 44 (0, 0)) ∧ w5.ownsRow (N + 2) 70 4 u10 kl (flatP (liesL pg f kl)) ∧ Below N u w5 ∧ M < w5.heap.size) := by
        refine ⟨(hblk5 N (by omega)).trans ((hb34.block N (by omega)).trans (unhide HI).res), ?_, own_same (unhide HI).row fun g hg hv => (hblk5 g (by omega)).trans (hb34.block g (by rw [unhide HM]; exact (own_lt (unhide HI).row hv).2)), ?_, ?_⟩
        · have h1 := (hb34.block (N + 1) hNM).trans (unhide HI).fnd
          have h2 := D.heapCell_same h1 0 (.int .u64 (Tm : Int))
          rw [← hw5] at h2
          exact h2
        · rw [hw5]
          exact belowC ((unhide HI).bel.trans (hb34.mono (by omega))) (p := ⟨N + 1, 0, none⟩) (by show N ≤ N + 1; omega) _
        · rw [hsz5]
          exact Nat.lt_of_lt_of_le (unhide HML) (unhide HB4).size
      have HL5 : Hid (LiesB w5 (some ⟨M, 0, none⟩) l) := fun _ => ⟨M, 0, rfl, (unhide HS5).2.2.2.2, fun j hj => by
        have h1 := (hblk5 M (by omega)).trans ((unhide HB4).block M (unhide HML))
        rw [World.cell?_of_block (a := ⟨M, 0 + j, none⟩) h1]
        exact unhide HCL j hj⟩
      have HT5 : Hid (Tab w5) := (unhide HTB).below (B := N) (unhide HS5).2.2.2.1 (by rw [unhide HN]; exact (unhide HTB).pos)
      rw [← hw5]
      clear hw5 hNM hb34 hsz5 hblk5 hc0 hf0 hmax HB3 HB4 HCL HML HX3
      refine (unhide HRM _).mono ?_
      rintro e w6 ⟨rfl, hw⟩
      obtain rfl := hw.symm
      clear hw
      by_cases hkr : k ≤ r
      · have hkri : (k : Int) ≤ (r : Int) := by omega
        obtain rfl : kl = k := by have := unhide HKL; omega
        clear HKL
        have HDC := hide (pDecAny l (some ⟨M, 0, none⟩) 1024 (f + kl) w5 (unhide HL5) (unhide HT5))
        rw [unhide HPL2, show ((f + kl : Nat) : Int) = (f : Int) + (kl : Int) from by omega] at HDC
        have HLS : Hid (liesL pg f (kl + 1) = liesL pg f kl ++ [(dec l (f + kl)).1]) := by show _ = _; rw [liesL_succ, ← unhide HLE]
        generalize dec l (f + kl) = dd at *
        obtain ⟨⟨pk, pn, ps, pb⟩, ec⟩ := dd
        have HDC2 : Hid (Calls Tryd.prog 40 #[.slice (some ⟨M, 0, none⟩) 1024 1024, .int .u32 ((f : Int) + (kl : Int))] w5 fun e w' => e = .returned (.tuple #[.agg #[.int .u8 (pk : Int), .int .u32 (pn : Int), .int .u64 (ps : Int), .string pb], .int .i64 ec]) ∧ Below w5.heap.size w5 w') := unhide HDC
        clear HDC
        have HDC := hide (unhide HDC2)
        clear HDC2
        have HLS2 : Hid (liesL pg f (kl + 1) = liesL pg f kl ++ [⟨pk, pn, ps, pb⟩]) := unhide HLS
        clear HLS
        go_wp2_with fail
        refine (unhide HDC).mono ?_
        rintro e w7 ⟨rfl, hb7⟩
        have HB7 := hide hb7
        obtain ⟨M7, hM7⟩ : ∃ z, z = w7.heap.size := ⟨_, rfl⟩
        have HM7 := hide hM7
        clear hb7 hM7 HDC
        have hone : (#[.int .u8 (pk : Int), .int .u32 (pn : Int), .int .u64 (ps : Int), .string pb] : Array Value).all (·.oneCell') = true := page_one _ _ _ _
        have HR7 : Hid (w7.ownsRow (N + 2) 70 4 u10 kl (flatP (liesL pg f kl))) := own_same (unhide HS5).2.2.1 fun g hg hv => (unhide HB7).block g (own_lt (unhide HS5).2.2.1 hv).2
        have hN7 : N + 2 ≤ M7 := by
          have h1 := (Array.getElem?_eq_some_iff.1 (unhide HS5).2.1).1
          have h2 := (unhide HB7).size
          have h3 := unhide HM7
          omega
        have hkl2 : kl ≤ 198 := by omega
        go_wp2_with (first
          | (refine wpList_alloc_row (by rfl) 70 (by rfl) (some 17) (by rfl) M7 (by exact (unhide HM7).symm) _ zeroPage ?_; intro W8 HX8 HB8 HS8; simp only [Act.put, List.setIfInBounds_toArray, List.set_cons_zero, List.set_cons_succ])
          | (refine wpList_store_hid (by rfl) 70 (.tmp 17) (.tmp 68) (by rfl) M7 #[.int .u8 (pk : Int), .int .u32 (pn : Int), .int .u64 (ps : Int), .string pb] (by rfl) (by rfl) 70 _ (unhide HX8) pageInfo rfl hone ?_; intro W9 HX9 HE9; simp only [Act.put]
             have HB9 : Hid (Below M7 w7 W9) := (by rw [unhide HE9]; exact belowRow (unhide HB8) (Nat.le_refl _) _)
             have HR9 : Hid (W9.ownsRow (N + 2) 70 4 u10 kl (flatP (liesL pg f kl))) := own_same (unhide HR7) fun g hg hv => (unhide HB9).block g (by rw [unhide HM7]; exact (own_lt (unhide HR7) hv).2)
             have HS9 : Hid (M7 < W9.heap.size) := (Array.getElem?_eq_some_iff.1 (unhide HX9)).1)
          | (refine wpList_load_row (by rfl) 70 (.tmp 17) (by rfl) M7 (by rfl) 70 #[.int .u8 (pk : Int), .int .u32 (pn : Int), .int .u64 (ps : Int), .string pb] (0, 0) _ (unhide HX9) pgUnd rfl pageInfo ?_; simp only [Act.put, List.setIfInBounds_toArray, List.set_cons_zero, List.set_cons_succ])
          | (at_builtin; refine wpList_put _ rfl (.tmp 70) (.tmp 72) 25 rfl (N + 2) 70 i0 (.agg #[.int .u8 0, .int .u32 0, .int .u64 0, .string ⟨#[]⟩]) 4 32 apUnd hi hz0 hz1 hz2 rfl (by decide) _ kl _ rfl ((unhide HR9).alloc _) ⟨W9.heap.size, 0, none⟩ 1 1 [.int .u8 (pk : Int), .int .u32 (pn : Int), .int .u64 (ps : Int), .string pb] rfl rfl (four_new _ _ _ _ _ _) (by simp [Value.oneCell']) (by simp only [maxLen]; omega) (by omega) (by simp; have := unhide HS9; omega) ?_; intro v' w10 hown' hgrow hnew; obtain ⟨g', cap', rfl⟩ := own_succ4 hown'; clear hnew
             have HY : Hid (Sc u w10 N (.slice (some ⟨g', 0, none⟩) (kl + 1) cap') pg f (kl + 1) (kl + 1)) := (by
               have hk10 : ∀ q, q < N + 2 → w10.heap[q]? = w5.heap[q]? := fun q hq => by
                 have h5 := (Array.getElem?_eq_some_iff.1 (unhide HS5).2.1).1
                 have h7 := (unhide HB7).block q (by omega)
                 have h9 := (unhide HB9).block q (by omega)
                 have ha := Below.heap_alloc W9 (.cells #[.int .u8 (pk : Int), .int .u32 (pn : Int), .int .u64 (ps : Int), .string pb] 70) q (by have := unhide HS9; omega)
                 have hg := hgrow.block q (by simp; have := unhide HS9; omega) (fun e => by have := (own_lt (unhide HR9) e.symm).1; omega)
                 exact hg.trans (ha.trans (h9.trans h7))
               refine ⟨(hk10 N (by omega)).trans (unhide HS5).1, by rw [unhide HTK]; exact (hk10 (N + 1) (by omega)).trans (unhide HS5).2.1, ?_, ?_⟩
               · rw [unhide HLS2]
                 have : flatP (liesL pg f kl ++ [⟨pk, pn, ps, pb⟩]) = flatP (liesL pg f kl) ++ [.int .u8 (pk : Int), .int .u32 (pn : Int), .int .u64 (ps : Int), .string pb] := by simp [flatP, Pg.cs]
                 rw [this]
                 exact hown'
               · have b1 := (unhide HS5).2.2.2.1
                 have b7 : Below N w5 w7 := (unhide HB7).mono (by have := (Array.getElem?_eq_some_iff.1 (unhide HS5).2.1).1; omega)
                 have b9 : Below N w7 W9 := (unhide HB9).mono (by omega)
                 have b10 : Below N W9 w10 := ((Below.refl N W9).alloc (by have := unhide HS9; omega) _).grown hgrow (by simp; have := unhide HS9; omega) (fun q e => by have := (own_lt (unhide HR9) e).1; omega)
                 exact ((b1.trans b7).trans b9).trans b10)
             clear hown' hgrow))
        go_roundw
        case rel => exact ⟨kl + 1, kl + 1, by omega, by omega, by go_num, unhide HY⟩
        case measure => simp [intOf]; omega
      · have hkri : (r : Int) < (k : Int) := by omega
        have HY : Hid (Sc u w5 N u10 pg f (k + 1) kl) := ⟨(unhide HS5).1, by rw [unhide HTK]; exact (unhide HS5).2.1, (unhide HS5).2.2.1, (unhide HS5).2.2.2.1⟩
        go_wp2
        go_roundw
        case rel => exact ⟨k + 1, kl, by omega, by have := unhide HKL; omega, by go_num, unhide HY⟩
        case measure => simp [intOf]; omega
    · have hkc : k = c := by omega
      subst hkc
      have hki : ¬ (k : Int) < (k : Int) := by omega
      obtain rfl : kl = r + 1 := by have h1 := unhide HKL; have h2 := unhide HR0; have h3 := unhide HFC; unfold roomN at h2; omega
      have hrow := (unhide HI).row
      have hll := liesL_len pg f (r + 1)
      obtain ⟨g, cap, rfl, hcap, hgb, hgl, hcells⟩ := own_pgs (l := liesL pg f (r + 1)) (by rw [hll]; exact hrow) (by rw [hll]; omega)
      rw [hll] at hcap ⊢
      have hsp : liesL pg f (r + 1) = hdrOf pg f :: slotsOf pg f k := by rw [unhide HR0]; exact liesL_split pg f k
      have hsl : (slotsOf pg f k).length = r := by rw [slotsOf_len, unhide HR0]
      have hix0 : ∀ W : World, (Instr.indexAt 25 (.slice (some ⟨g, 0, none⟩) (r + 1) cap) (.int .i64 0)).run Tryd.prog W = .ok (.pointer (some ⟨g, 0, none⟩)) W := fun W => by
        have := ixPages g 0 (r + 1) cap 0 (by omega) W
        simpa using this
      obtain ⟨o1, ho1⟩ : ∃ z, z = if cap = 1 then 0 else 4 := ⟨_, rfl⟩
      have hcut : ∀ W : World, (Instr.slice 25 (.slice (some ⟨g, 0, none⟩) (r + 1) cap) (some (.int .i64 1)) none none).run Tryd.prog W = .ok (.slice (some ⟨g, o1, none⟩) r (cap - 1)) W := fun W => by rw [cutPages g (r + 1) cap (by omega) W, ← ho1]; rfl
      have hPs : Pgs wr (some ⟨g, o1, none⟩) (slotsOf pg f k) := fun h0 => by
        have hc1 : ¬ cap = 1 := by omega
        rw [if_neg hc1] at ho1
        refine ⟨g, o1, rfl, fun j hj q hq => ?_⟩
        have hj2 : j + 1 < (liesL pg f (r + 1)).length := by rw [hsp]; simpa using hj
        have h1 := hcells (j + 1) hj2 q hq
        rw [ho1, show 4 + j * 4 + q = (j + 1) * 4 + q from by omega, h1]
        have h2 : (liesL pg f (r + 1))[j + 1]'hj2 = (slotsOf pg f k)[j] := by simp [hsp]
        rw [h2]
      have hH : ∀ q, q < 4 → wr.cell? ⟨g, q, none⟩ = ((hdrOf pg f).cs)[q]? := fun q hq => by
        have h0 : 0 < (liesL pg f (r + 1)).length := by rw [hll]; omega
        have h1 := hcells 0 h0 q hq
        rw [show 0 * 4 + q = q from by omega] at h1
        have h2 : (liesL pg f (r + 1))[0]'h0 = hdrOf pg f := by simp [hsp]
        rw [h1, h2]
      have HBT := hide (fun (W : World) (hW : Below wr.heap.size wr W) => jBatch (hdrOf pg f) (Nat.le_trans (dec_fit _ _) (by decide)) (slotsOf pg f k) (by rw [hsl]; omega) (some ⟨g, o1, none⟩) (cap - 1) W (hPs.below hW))
      rw [hsl] at HBT
      obtain ⟨BL, hBL⟩ : ∃ z, z = batchL (hdrOf pg f) (slotsOf pg f k) := ⟨_, rfl⟩
      obtain ⟨BO, hBOe⟩ : ∃ z, z = batchOk (hdrOf pg f) (slotsOf pg f k) := ⟨_, rfl⟩
      rw [← hBL, ← hBOe] at HBT
      have HSC := hide (unhide HI)
      have HG : Hid (N + 2 ≤ g ∧ g < wr.heap.size) := ⟨hgb, hgl⟩
      obtain ⟨H, hH0⟩ : ∃ z, z = hdrOf pg f := ⟨_, rfl⟩
      have HEQ : Hid (BL = batchL (hdrOf pg f) (slotsOf pg f k) ∧ BO = batchOk (hdrOf pg f) (slotsOf pg f k) ∧ H = hdrOf pg f) := ⟨hBL, hBOe, hH0⟩
      rw [← hH0] at HBT hH
      clear hBL hBOe hH0
      obtain ⟨hk0, hn0, hs0, hb0⟩ := H
      have x0 : wr.cell? ⟨g, 0, none⟩ = some (.int .u8 (hk0 : Int)) := hH 0 (by decide)
      have x1 : wr.cell? ⟨g, 1, none⟩ = some (.int .u32 (hn0 : Int)) := hH 1 (by decide)
      have x2 : wr.cell? ⟨g, 2, none⟩ = some (.int .u64 (hs0 : Int)) := hH 2 (by decide)
      have x3 : wr.cell? ⟨g, 3, none⟩ = some (.string hb0) := hH 3 (by decide)
      have HBT2 : Hid (∀ W : World, Below wr.heap.size wr W → Calls Tryd.prog 41 #[.agg #[.int .u8 (hk0 : Int), .int .u32 (hn0 : Int), .int .u64 (hs0 : Int), .string hb0], .slice (some ⟨g, o1, none⟩) r (cap - 1)] W fun e u' => (BO → ∃ G, e = .returned (.tuple #[.slice (some ⟨G, 0, none⟩) BL.length BL.length, .bool true]) ∧ W.heap.size ≤ G ∧ Rp u' G BL) ∧ (¬ BO → e = .returned (.tuple #[.slice none 0 0, .bool false])) ∧ Below W.heap.size W u') := unhide HBT
      clear HBT hH hPs hcells hsp hsl hrow hll hgb hgl hcap ho1 HI
      obtain ⟨tp, htp⟩ : ∃ z, z = topK pg f k := ⟨_, rfl⟩
      have HTP := hide htp
      clear htp
      have HRN : Hid (wr.heap[N]? = some (.cells #[.int .u64 0, .bool false, .int .u64 0, .slice none 0 0] 44 (0, 0)) ∧ wr.heap[N + 1]? = some (.cells #[.int .u64 (tp : Int), .bool false, .int .u64 0, .slice none 0 0] 44 (0, 0)) ∧ Below N u wr ∧ N + 1 < wr.heap.size) := ⟨(unhide HSC).res, by rw [unhide HTP]; exact (unhide HSC).fnd, (unhide HSC).bel, (Array.getElem?_eq_some_iff.1 (unhide HSC).fnd).1⟩
      clear HSC
      by_cases hBO : BO
      · go_wp2
        go_region_held3 (fun W => W.cell? ⟨g, 0, none⟩ = some (.int .u8 (hk0 : Int)) ∧ W.cell? ⟨g, 1, none⟩ = some (.int .u32 (hn0 : Int)) ∧ W.cell? ⟨g, 2, none⟩ = some (.int .u64 (hs0 : Int)) ∧ W.cell? ⟨g, 3, none⟩ = some (.string hb0)) (first | exact ⟨x0, x1, x2, x3⟩ | exact ⟨y0, y1, y2, y3⟩ | (go_keep; done) | ((try dsimp only); (repeat' apply And.intro) <;> (go_keep; done))) (first | (go_at_call 41; refine (unhide HBT2 _ (by exact ⟨rfl, rfl, rfl, Nat.le_refl _, fun _ _ => rfl⟩)).mono ?_; rintro e w5 ⟨h1, h2, h3⟩; obtain ⟨G, rfl, hG, hR⟩ := h1 hBO; have HG5 : Hid (wr.heap.size ≤ G ∧ Rp w5 G BL) := ⟨hG, hR⟩; clear hG hR; have HB5 : Hid (Below wr.heap.size wr w5) := ⟨h3.os, h3.tape, h3.output, h3.size, h3.block⟩; have y0 := ((unhide HB5).cell (p := ⟨g, 0, none⟩) (unhide HG).2).trans x0; have y1 := ((unhide HB5).cell (p := ⟨g, 1, none⟩) (unhide HG).2).trans x1; have y2 := ((unhide HB5).cell (p := ⟨g, 2, none⟩) (unhide HG).2).trans x2; have y3 := ((unhide HB5).cell (p := ⟨g, 3, none⟩) (unhide HG).2).trans x3; clear h1 h2 h3))
        clear y0 y1 y3 x0 x1 x2 x3
        have k1 : w5.cell? ⟨N + 1, 1, none⟩ = some (.bool false) := cellOf (((unhide HB5).block (N + 1) (unhide HRN).2.2.2).trans (unhide HRN).2.1) 1
        have k2 : w5.cell? ⟨N + 1, 2, none⟩ = some (.int .u64 0) := cellOf (((unhide HB5).block (N + 1) (unhide HRN).2.2.2).trans (unhide HRN).2.1) 2
        have k3 : w5.cell? ⟨N + 1, 3, none⟩ = some (.slice none 0 0) := cellOf (((unhide HB5).block (N + 1) (unhide HRN).2.2.2).trans (unhide HRN).2.1) 3
        have fz : ∀ q, w5.frozen? ⟨N + 1, q, none⟩ = false := fun q => by simp [World.frozen?, ((unhide HB5).block (N + 1) (unhide HRN).2.2.2).trans (unhide HRN).2.1]
        have fz1 := fz 1
        have fz2 := fz 2
        have fz3 := fz 3
        have hgN : ¬ g = N + 1 := by have := unhide HG; omega
        have hgN2 : ¬ N + 1 = g := by have := unhide HG; omega
        clear fz
        go_wp2
        go_region
        obtain ⟨W6, hW6⟩ : ∃ z, z = (((w5.setCell ⟨N + 1, 1, none⟩ (.bool true)).setCell ⟨N + 1, 2, none⟩ (.int .u64 (hs0 : Int))).setCell ⟨N + 1, 3, none⟩ (.slice (some ⟨G, 0, none⟩) BL.length BL.length)).drew := ⟨_, rfl⟩
        have hF5 : w5.heap[N + 1]? = some (.cells #[.int .u64 (tp : Int), .bool false, .int .u64 0, .slice none 0 0] 44 (0, 0)) := ((unhide HB5).block (N + 1) (unhide HRN).2.2.2).trans (unhide HRN).2.1
        have hb6 : ∀ q, q ≠ N + 1 → W6.heap[q]? = w5.heap[q]? := fun q hq => by
          rw [hW6]
          refine (Deep.blk_setCell_other _ ⟨N + 1, 3, none⟩ _ q hq).trans ((Deep.blk_setCell_other _ ⟨N + 1, 2, none⟩ _ q hq).trans (Deep.blk_setCell_other _ ⟨N + 1, 1, none⟩ _ q hq))
        have HF6 : Hid (W6.heap[N + 1]? = some (.cells #[.int .u64 (tp : Int), .bool true, .int .u64 (hs0 : Int), .slice (some ⟨G, 0, none⟩) BL.length BL.length] 44 (0, 0))) := by
          rw [hW6]
          have h1 := D.heapCell_same hF5 1 (.bool true)
          have h2 := D.heapCell_same h1 2 (.int .u64 (hs0 : Int))
          have h3 := D.heapCell_same h2 3 (.slice (some ⟨G, 0, none⟩) BL.length BL.length)
          exact h3
        have HR6 : Hid (W6.heap[N]? = some (.cells #[.int .u64 0, .bool false, .int .u64 0, .slice none 0 0] 44 (0, 0))) := (hb6 N (by omega)).trans (((unhide HB5).block N (by have := (unhide HRN).2.2.2; omega)).trans (unhide HRN).1)
        have HB6 : Hid (Below N u W6) := by
          have b5 := (unhide HRN).2.2.1.trans ((unhide HB5).mono (B := wr.heap.size) (by have := (unhide HRN).2.2.2; omega))
          have b6 := belowC (belowC (belowC b5 (p := ⟨N + 1, 1, none⟩) (by show N ≤ N + 1; omega) (.bool true)) (p := ⟨N + 1, 2, none⟩) (by show N ≤ N + 1; omega) (.int .u64 (hs0 : Int))) (p := ⟨N + 1, 3, none⟩) (by show N ≤ N + 1; omega) (.slice (some ⟨G, 0, none⟩) BL.length BL.length)
          rw [hW6]
          exact ⟨b6.os, b6.tape, b6.output, b6.size, b6.block⟩
        have HP6 : Hid (Rp W6 G BL ∧ N + 1 < G) := ⟨(unhide HG5).2.same (hb6 G (by have := (unhide HG5).1; have := (unhide HRN).2.2.2; omega)), by have := (unhide HG5).1; have := (unhide HRN).2.2.2; omega⟩
        rw [← hW6]
        clear hW6 hF5 hb6 k1 k2 k3 fz1 fz2 fz3 y2
        go_wp2_with (first
          | (refine wpList_load_row (by rfl) 44 (.tmp 9) (by rfl) (N + 1) (by rfl) 44 #[.int .u64 (tp : Int), .bool true, .int .u64 (hs0 : Int), .slice (some ⟨G, 0, none⟩) BL.length BL.length] (0, 0) _ (unhide HF6) foundUnd rfl foundInfo ?_; simp only [Act.put, List.setIfInBounds_toArray, List.set_cons_zero, List.set_cons_succ])
          | (refine wpList_store_hid (by rfl) 44 (.tmp 6) (.tmp 93) (by rfl) N #[.int .u64 (tp : Int), .bool true, .int .u64 (hs0 : Int), .slice (some ⟨G, 0, none⟩) BL.length BL.length] (by rfl) (by rfl) 44 _ (unhide HR6) foundInfo rfl (found_one _ _ _ _ _ _) ?_; intro W9 HX9 HE9; simp only [Act.put]))
        refine bodyPost_ret (results_cell_tmp rfl _ _ N 44 #[.int .u64 (tp : Int), .bool true, .int .u64 (hs0 : Int), .slice (some ⟨G, 0, none⟩) BL.length BL.length] (0, 0) _ rfl (unhide HX9) foundUnd rfl foundInfo) rfl ?_
        have hyes : batchOk (hdrOf pg f) (slotsOf pg f k) := by rw [← (unhide HEQ).2.1]; exact hBO
        rw [unhide HTP, ← (unhide HEQ).1, ← (unhide HEQ).2.2]
        refine ⟨fun _ => ⟨G, rfl, ?_, ?_⟩, fun hx => absurd (by rw [(unhide HEQ).2.2]; exact hyes) hx, ?_⟩
        · have := (unhide HP6).2
          omega
        · rw [unhide HE9]
          exact (unhide HP6).1.same (heapRow_other _ _ _ _ (by have := (unhide HP6).2; omega))
        · rw [unhide HE9]
          exact belowRow (unhide HB6) (Nat.le_refl _) _
      · go_wp2
        go_region_held3 (fun W => W.cell? ⟨g, 0, none⟩ = some (.int .u8 (hk0 : Int)) ∧ W.cell? ⟨g, 1, none⟩ = some (.int .u32 (hn0 : Int)) ∧ W.cell? ⟨g, 2, none⟩ = some (.int .u64 (hs0 : Int)) ∧ W.cell? ⟨g, 3, none⟩ = some (.string hb0)) (first | exact ⟨x0, x1, x2, x3⟩ | exact ⟨y0, y1, y2, y3⟩ | (go_keep; done) | ((try dsimp only); (repeat' apply And.intro) <;> (go_keep; done))) (first | (go_at_call 41; refine (unhide HBT2 _ (by exact ⟨rfl, rfl, rfl, Nat.le_refl _, fun _ _ => rfl⟩)).mono ?_; rintro e w5 ⟨h1, h2, h3⟩; obtain rfl := h2 hBO; have HB5 : Hid (Below wr.heap.size wr w5) := ⟨h3.os, h3.tape, h3.output, h3.size, h3.block⟩; have y0 := ((unhide HB5).cell (p := ⟨g, 0, none⟩) (unhide HG).2).trans x0; have y1 := ((unhide HB5).cell (p := ⟨g, 1, none⟩) (unhide HG).2).trans x1; have y2 := ((unhide HB5).cell (p := ⟨g, 2, none⟩) (unhide HG).2).trans x2; have y3 := ((unhide HB5).cell (p := ⟨g, 3, none⟩) (unhide HG).2).trans x3; clear h1 h2 h3))
        clear y0 y1 y2 y3 x0 x1 x2 x3
        have HF5 : Hid (w5.heap[N + 1]? = some (.cells #[.int .u64 (tp : Int), .bool false, .int .u64 0, .slice none 0 0] 44 (0, 0))) := ((unhide HB5).block (N + 1) (unhide HRN).2.2.2).trans (unhide HRN).2.1
        have HR5 : Hid (w5.heap[N]? = some (.cells #[.int .u64 0, .bool false, .int .u64 0, .slice none 0 0] 44 (0, 0))) := ((unhide HB5).block N (by have := (unhide HRN).2.2.2; omega)).trans (unhide HRN).1
        go_wp2_with (first
          | (refine wpList_load_row (by rfl) 44 (.tmp 9) (by rfl) (N + 1) (by rfl) 44 #[.int .u64 (tp : Int), .bool false, .int .u64 0, .slice none 0 0] (0, 0) _ (unhide HF5) foundUnd rfl foundInfo ?_; simp only [Act.put, List.setIfInBounds_toArray, List.set_cons_zero, List.set_cons_succ])
          | (refine wpList_store_hid (by rfl) 44 (.tmp 6) (.tmp 93) (by rfl) N #[.int .u64 (tp : Int), .bool false, .int .u64 0, .slice none 0 0] (by rfl) (by rfl) 44 _ (unhide HR5) foundInfo rfl (found_one _ _ _ _ _ _) ?_; intro W9 HX9 HE9; simp only [Act.put]))
        refine bodyPost_ret (results_cell_tmp rfl _ _ N 44 #[.int .u64 (tp : Int), .bool false, .int .u64 0, .slice none 0 0] (0, 0) _ rfl (unhide HX9) foundUnd rfl foundInfo) rfl ?_
        have hno : ¬ batchOk (hdrOf pg f) (slotsOf pg f k) := by rw [← (unhide HEQ).2.1]; exact hBO
        rw [unhide HTP]
        refine ⟨fun hx => absurd hx hno, fun _ => rfl, ?_⟩
        rw [unhide HE9]
        exact belowRow ((unhide HRN).2.2.1.trans ((unhide HB5).mono (by have := (unhide HRN).2.2.2; omega))) (Nat.le_refl _) _
end
end Go.Proofs.YtfdfbjijomepgaaDoor
