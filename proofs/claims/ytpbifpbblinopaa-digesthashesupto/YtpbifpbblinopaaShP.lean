/- The program's words of a block: by bytes. -/
import Derived.Test.YtpbifpbblinopaaShS
import Derived.Deep.RegionWith
namespace Go.Proofs.Ytpbifpbblinopaa
open Go.RowKit

/-- the word j behind i bytes -/
def pw (b : Nat → Nat) : Nat → Nat → Nat
  | 0, _ => 0
  | i + 1, j => if j = i / 4 then (pw b i j * 256 % 4294967296) ||| b i else pw b i j
theorem pw_zero (b : Nat → Nat) (j i : Nat) (h : i ≤ 4 * j) : pw b i j = 0 := by
  induction i with
  | zero => rfl
  | succ i ih => rw [pw, if_neg (by omega), ih (by omega)]
theorem pw_stay (b : Nat → Nat) (j i : Nat) : pw b (4 * j + 4 + i) j = pw b (4 * j + 4) j := by
  induction i with
  | zero => rfl
  | succ i ih => rw [← Nat.add_assoc, pw, if_neg (by omega), ih]
theorem or_byte (x y : Nat) (hy : y < 256) : (x * 256 % 4294967296) ||| y = x % 16777216 * 256 + y := by
  have e : x * 256 % 4294967296 = 2 ^ 8 * (x % 16777216) := by omega
  rw [e, ← Nat.two_pow_add_eq_or_of_lt (by omega)]
  omega
theorem pw_be (b : Nat → Nat) (hb : ∀ j, b j < 256) (j : Nat) (hj : j < 16) : pw b 64 j = Sha.be b j := by
  obtain ⟨d, hd⟩ : ∃ d, 64 = 4 * j + 4 + d := ⟨60 - 4 * j, by omega⟩
  rw [hd, pw_stay, pw, if_pos (by omega), pw, if_pos (by omega), pw, if_pos (by omega), pw, if_pos (by omega), pw_zero b j _ (Nat.le_refl _)]
  have h0 := hb (4 * j); have h1 := hb (4 * j + 1); have h2 := hb (4 * j + 2); have h3 := hb (4 * j + 3)
  rw [or_byte _ _ h3, or_byte _ _ h2, or_byte _ _ h1, or_byte _ _ h0]
  show _ = b (4 * j) * 16777216 + b (4 * j + 1) * 65536 + b (4 * j + 2) * 256 + b (4 * j + 3)
  omega
theorem pw_lt (b : Nat → Nat) (hb : ∀ j, b j < 256) (i j : Nat) : pw b i j < 4294967296 := by
  induction i with
  | zero => exact Nat.zero_lt_succ _
  | succ i ih =>
    rw [pw]
    split
    · exact Nat.or_lt_two_pow (n := 32) (Nat.mod_lt _ (by decide)) (Nat.lt_of_lt_of_le (hb i) (by decide))
    · exact ih
/-- so many bytes -/
structure Is8 (cs : Array Value) (n : Nat) (f : Nat → Nat) : Prop where
  size : cs.size = n
  at' : ∀ i, i < n → cs[i]? = some (.int .u8 (f i : Nat))
theorem Is8.one {cs : Array Value} {n : Nat} {f : Nat → Nat} (h : Is8 cs n f) : cs.all (·.oneCell') = true := by
  rw [Array.all_eq_true]
  intro i hi
  have := h.at' i (by have := h.size; omega)
  rw [Array.getElem?_eq_getElem hi] at this
  rw [Option.some.inj this]; rfl
theorem Rw.upd {f f' : Nat → Nat} {w wr : World} {r k : Nat} {ts : Array Value} (h : Rw f w wr r 64 ts) (v : Value) (hv : v = .int .u32 (f' k : Nat)) (hk : k < 64) (hf : ∀ j, j ≠ k → f' j = f j) :
    Rw f' w (wr.setCell ⟨r, k, none⟩ v) r 64 (ts.setIfInBounds k v) := by
  subst hv
  refine ⟨by simpa using h.size, ?_, heapCell_same h.row _ _, h.lt, belowCell h.bel h.lt _⟩
  intro j hj
  rw [Array.getElem?_setIfInBounds]
  by_cases hjk : k = j
  · subst hjk; rw [if_pos rfl, if_pos (by rw [h.size]; exact hk)]
  · rw [if_neg hjk, hf j (fun e => hjk e.symm)]; exact h.at' j hj
theorem Rw.less {f f' : Nat → Nat} {w wr : World} {r k k' : Nat} {ts : Array Value} (h : Rw f w wr r k ts) (hk : k' ≤ k) (hf : ∀ j, j < k' → f' j = f j) : Rw f' w wr r k' ts :=
  ⟨h.size, fun j hj => by rw [hf j hj]; exact h.at' j (by omega), h.row, h.lt, h.bel⟩
theorem Rw.set {f : Nat → Nat} {w wr : World} {r k : Nat} {ts : Array Value} (h : Rw f w wr r k ts) (v : Value) (n : Nat) :
    Rw f w ((wr.setCell ⟨r, k, none⟩ v).drewN n) r k (ts.setIfInBounds k v) := by
  refine ⟨by simpa using h.size, ?_, heapCell_same h.row _ _, h.lt, belowDrewN (belowCell h.bel h.lt _) _⟩
  intro j hj
  rw [Array.getElem?_setIfInBounds, if_neg (by omega)]
  exact h.at' j hj
theorem Rw.set0 {f : Nat → Nat} {w wr : World} {r k : Nat} {ts : Array Value} (h : Rw f w wr r k ts) (v : Value) :
    Rw f w (wr.setCell ⟨r, k, none⟩ v) r k (ts.setIfInBounds k v) := by
  refine ⟨by simpa using h.size, ?_, heapCell_same h.row _ _, h.lt, belowCell h.bel h.lt _⟩
  intro j hj
  rw [Array.getElem?_setIfInBounds, if_neg (by omega)]
  exact h.at' j hj
theorem Rw.drew {f : Nat → Nat} {w wr : World} {r k : Nat} {ts : Array Value} (h : Rw f w wr r k ts) : Rw f w wr.drew r k ts := ⟨h.size, h.at', h.row, h.lt, belowDrewN h.bel 1⟩
theorem Rw.next0 {f : Nat → Nat} {w wr : World} {r k : Nat} {ts : Array Value} (h : Rw f w wr r k ts) (v : Value) (hv : v = .int .u32 (f k : Nat)) (hk : k < 64) :
    Rw f w (wr.setCell ⟨r, k, none⟩ v) r (k + 1) (ts.setIfInBounds k v) := h.next v hv hk 0
theorem Z64_is : Is32 Z64 64 (fun _ => 0) := by
  refine ⟨rfl, fun i hi => ?_⟩
  unfold Z64
  rw [List.getElem?_toArray, List.getElem?_replicate, if_pos hi]
  rfl
theorem run_index_u8 (cs : Array Value) (k x : Nat) (w : World) (hk : k < 64) (hc : cs[k]? = some (.int .u8 x)) : (Instr.index 65 (.agg cs) (.int .i64 k)).run Try.prog w = .ok (.int .u8 x) w := by
  have hu := Try.underlying65
  have hi : (Try.prog.info? 5).map (fun i => (i.zero, i.size, i.bytes)) = some (some (.int .u8 0), 1, 1) := by kernel_rfl
  obtain ⟨i0, hi, hz0, hz1, hz2⟩ := info_parts hi
  have hlt := (Array.getElem?_eq_some_iff.1 hc).1
  simp [Instr.index, go_sem, run_underlying hu, sizeOf, typeInfo, hi, hz1]
  rw [if_pos hk, hc]
  rfl
theorem Rw.start3 (f : Nat → Nat) (w : World) (O : Obj) (A B : Array Value) (hA : A.size = 64) (hB : Is32 B 64 f) :
    Rw f w (((w.alloc O).alloc (.cells A 62)).alloc (.cells B 62)) (w.heap.size + 1 + 1) 64 B ∧ ∃ zs : Array Value, zs.size = 64 ∧ (((w.alloc O).alloc (.cells A 62)).alloc (.cells B 62)).heap[w.heap.size + 1]? = some (.cells zs 62 (0, 0)) := by
  refine ⟨⟨hB.size, hB.at', ?_, by omega, (((Below.refl _ _).alloc (Nat.le_refl _) _).alloc (by simp) _).alloc (by simp; omega) _⟩, A, hA, ?_⟩
  · have := heap_alloc_new ((w.alloc O).alloc (.cells A 62)) (.cells B 62)
    simpa using this
  · rw [Deep.blk_alloc_lt _ _ _ (by simp)]
    have := heap_alloc_new (w.alloc O) (.cells A 62)
    simpa using this
theorem keepS {w : World} {r a k : Nat} {v y : Value} (h : w.cell? ⟨r, a, none⟩ = some y) (hne : ¬ (k = a)) : (w.setCell ⟨r, k, none⟩ v).cell? ⟨r, a, none⟩ = some y := by
  rw [World.cell?_setCell_other _ _ _ _ (fun e => hne (by cases e; rfl))]
  exact h
theorem heap_set {w : World} {r k g : Nat} {v : Value} {o : Obj} (h : w.heap[g]? = some o) (hne : g ≠ r) : (w.setCell ⟨r, k, none⟩ v).heap[g]? = some o := by
  rw [Deep.blk_setCell_other _ _ _ _ hne]; exact h
set_option maxRecDepth 100000 in
set_option maxHeartbeats 4000000 in
theorem dSpread (b : Nat → Nat) (hb : ∀ j, b j < 256) (cs : Array Value) (hcs : Is8 cs 64 b) (w : World) :
    Calls Try.prog 51 #[.agg cs] w fun e w' => (∃ ws, e = .returned (.agg ws) ∧ Is32 ws 64 (Sha.wd b)) ∧ Below w.heap.size w w' := by
  have HC := hide hcs
  have HB := hide hb
  have hi1 : (Try.prog.info? 65).map (·.size) = some cs.size := by rw [infoB, hcs.size]
  have hu1 := Try.underlying65
  clear hcs hb
  go_enter Try.func51, Try.ntmps51
  go_wp2_with (first | (refine wpList_load_row rfl 65 (.tmp 1) rfl w.heap.size rfl 65 cs (0, 0) _ (by rw [Deep.blk_alloc_lt _ _ _ (by simp; omega), Deep.blk_alloc_lt _ _ _ (by simp)]; exact heap_alloc_new _ _) hu1 rfl hi1 ?_))
  clear hi1 hu1
  go_loopw [8] (fun i wr => ∃ k : Nat, ∃ ts : Array Value, k ≤ 64 ∧ i = .int .i64 k ∧ Hid (Rw (pw b k) w wr (w.heap.size + 1 + 1) 64 ts) ∧ Hid (∃ zs : Array Value, zs.size = 64 ∧ wr.heap[w.heap.size + 1]? = some (.cells zs 62 (0, 0)))) (fun i _ => 64 - (intOf i).toNat)
  case atStart =>
    exact ⟨0, _, Nat.zero_le _, rfl, hide (Rw.start3 (pw b 0) w _ _ _ rfl Z64_is).1, hide (Rw.start3 (pw b 0) w _ _ _ rfl Z64_is).2⟩
  case round =>
    obtain ⟨k, ts, hk, rfl, HI, HZ⟩ := hrel
    by_cases hlt : k < 64
    · obtain ⟨j, hj⟩ : ∃ j, j = k / 4 := ⟨_, rfl⟩
      have q1 : (k : Int).tdiv 4 = (j : Int) := by rw [Int.tdiv_eq_ediv_of_nonneg (by omega)]; omega
      have q2 : (k : Int) / 4 = (j : Int) := by omega
      have hj16 : (j : Int) < 64 := by omega
      have hix := run_index_u8 cs k _ wr hlt ((unhide HC).at' k hlt)
      have hyl := unhide HB k
      have hc := (unhide HI).cell (j := j) (by omega)
      have hfz := (unhide HI).frozen j
      have hxl := pw_lt b (unhide HB) k j
      have hE : ∀ i, i ≠ j → pw b (k + 1) i = pw b k i := fun i hi => by rw [pw, if_neg (by omega)]
      have hZ : pw b (k + 1) j = (pw b k j * 256 % 4294967296) ||| b k := by rw [pw, if_pos hj]
      obtain ⟨z, hz⟩ : ∃ z, z = (pw b k j * 256 % 4294967296) ||| b k := ⟨_, rfl⟩
      have hZ2 := hZ.trans hz.symm
      obtain ⟨f1, hf1⟩ : ∃ f1 : Nat → Nat, f1 = fun i => if i = j then pw b k j * 256 % 4294967296 else pw b k i := ⟨_, rfl⟩
      have hf1j : f1 j = pw b k j * 256 % 4294967296 := by rw [hf1]; simp
      have hf1o : ∀ i, i ≠ j → f1 i = pw b k i := fun i hi => by rw [hf1]; simp [hi]
      have hN : ∀ v1 v2 : Value, v1 = .int .u32 ((pw b k j * 256 % 4294967296 : Nat) : Int) → v2 = .int .u32 ((z : Nat) : Int) → Rw (pw b (k + 1)) w ((wr.setCell ⟨w.heap.size + 1 + 1, j, none⟩ v1).setCell ⟨w.heap.size + 1 + 1, j, none⟩ v2) (w.heap.size + 1 + 1) 64 ((ts.setIfInBounds j v1).setIfInBounds j v2) := by
        intro v1 v2 h1 h2
        exact Rw.upd (Rw.upd (f' := f1) (unhide HI) v1 (by rw [h1, hf1j]) (by omega) hf1o) v2 (by rw [h2, hZ2]) (by omega) (fun i hi => by rw [hE i hi, hf1o i hi])
      have HN := hide hN
      clear hN hE hZ hZ2 hf1 hf1j hf1o hj
      generalize pw b k j = x at *
      generalize b k = y at *
      have eo : bits .or .u32 ((x : Int) * 256 % 4294967296) (y : Int) = (z : Int) := by
        rw [show (x : Int) * 256 % 4294967296 = ((x * 256 % 4294967296 : Nat) : Int) from by omega, o32 _ _ (by omega) (by omega), hz]
      have HZZ := hide hz
      clear hz
      go_wp2
      go_roundw
      case rel =>
        refine ⟨k + 1, _, by omega, by go_num, hide (unhide HN _ _ ?_ ?_), ?_⟩
        · congr 1
        · rfl
        · obtain ⟨zs, hz1, hz2⟩ := unhide HZ
          exact hide ⟨zs, hz1, heap_set (heap_set hz2 (by omega)) (by omega)⟩
      case measure => simp [intOf]; omega
    · have hkk : k = 64 := by omega
      subst hkk
      have HI2 := hide ((unhide HI).less (f' := Sha.wd b) (k' := 16) (by decide) (fun j hj => by rw [Sha.wd_first b j hj, pw_be b (unhide HB) j hj]))
      clear HI
      go_wp2
      go_loopw [6] (fun i wr => ∃ k : Nat, ∃ ts : Array Value, 16 ≤ k ∧ k ≤ 64 ∧ i = .int .i64 k ∧ Hid (Rw (Sha.wd b) w wr (w.heap.size + 1 + 1) k ts) ∧ Hid (∃ zs : Array Value, zs.size = 64 ∧ wr.heap[w.heap.size + 1]? = some (.cells zs 62 (0, 0)))) (fun i _ => 64 - (intOf i).toNat)
      case atStart => exact ⟨16, _, by omega, by omega, rfl, HI2, HZ⟩
      case round =>
        clear HI2 HZ
        obtain ⟨k, ts, hk16, hk, rfl, HI, HZ⟩ := hrel
        by_cases hlt : k < 64
        · obtain ⟨a16, ha16⟩ : ∃ j, j = k - 16 := ⟨_, rfl⟩
          obtain ⟨a15, ha15⟩ : ∃ j, j = k - 15 := ⟨_, rfl⟩
          obtain ⟨a7, ha7⟩ : ∃ j, j = k - 7 := ⟨_, rfl⟩
          obtain ⟨a2, ha2⟩ : ∃ j, j = k - 2 := ⟨_, rfl⟩
          have p15 : (k : Int) - 15 = (a15 : Int) := by omega
          have p2 : (k : Int) - 2 = (a2 : Int) := by omega
          have p16 : (k : Int) - 16 = (a16 : Int) := by omega
          have p7 : (k : Int) - 7 = (a7 : Int) := by omega
          have r16 : IntKind.i64.wrap (a16 : Int) = (a16 : Int) := by rw [IntKind.wrap_i64]; omega
          have r15 : IntKind.i64.wrap (a15 : Int) = (a15 : Int) := by rw [IntKind.wrap_i64]; omega
          have r7 : IntKind.i64.wrap (a7 : Int) = (a7 : Int) := by rw [IntKind.wrap_i64]; omega
          have r2 : IntKind.i64.wrap (a2 : Int) = (a2 : Int) := by rw [IntKind.wrap_i64]; omega
          have hq16 : (a16 : Int) < 64 := by omega
          have hq15 : (a15 : Int) < 64 := by omega
          have hq7 : (a7 : Int) < 64 := by omega
          have hq2 : (a2 : Int) < 64 := by omega
          have hqk : (k : Int) < 64 := by omega
          have c16 := (unhide HI).cell (j := a16) (by omega)
          have c15 := (unhide HI).cell (j := a15) (by omega)
          have c7 := (unhide HI).cell (j := a7) (by omega)
          have c2 := (unhide HI).cell (j := a2) (by omega)
          have n16 : ¬ (k = a16) := by omega
          have n7 : ¬ (k = a7) := by omega
          have n15 : ¬ (k = a15) := by omega
          have n2 : ¬ (k = a2) := by omega
          have hV : Sha.wd b k = (Sha.wd b a16 + Sha.s0 (Sha.wd b a15) + Sha.wd b a7 + Sha.s1 (Sha.wd b a2)) % 4294967296 := by rw [Sha.wd_next b k (by omega), ha16, ha15, ha7, ha2]
          have HV := hide hV
          have HL4 : Hid (Sha.wd b a16 < 4294967296 ∧ Sha.wd b a7 < 4294967296) := ⟨Sha.wd_lt b (unhide HB) _, Sha.wd_lt b (unhide HB) _⟩
          have hl15 := Sha.wd_lt b (unhide HB) a15
          have hl2 := Sha.wd_lt b (unhide HB) a2
          clear hV ha16 ha15 ha7 ha2
          generalize Sha.wd b a16 = y16 at *
          generalize Sha.wd b a15 = y15 at *
          generalize Sha.wd b a7 = y7 at *
          generalize Sha.wd b a2 = y2 at *
          obtain ⟨Z0, hZ0⟩ : ∃ A, A = Sha.s0 y15 := ⟨_, rfl⟩
          obtain ⟨Z1, hZ1⟩ : ∃ A, A = Sha.s1 y2 := ⟨_, rfl⟩
          rw [← hZ0, ← hZ1] at HV
          have HZ0 : Hid (Z0 < 4294967296 ∧ Z1 < 4294967296) := by rw [hZ0, hZ1]; exact ⟨Sha.s0_lt hl15, Sha.s1_lt hl2⟩
          have M1 : Hid (∀ u, Calls Try.prog 56 #[.int .u32 y15, .int .u64 7, .int .u64 18, .int .u64 3] u fun e w' => e = .returned (.int .u32 (Z0 : Nat)) ∧ w' = u) := hide (fun u => by rw [hZ0, ← lo_s0]; exact dLaidOver y15 7 18 3 u hl15 (by decide) (by decide) (by decide) (by decide) (by decide))
          have M2 : Hid (∀ u, Calls Try.prog 56 #[.int .u32 y2, .int .u64 17, .int .u64 19, .int .u64 10] u fun e w' => e = .returned (.int .u32 (Z1 : Nat)) ∧ w' = u) := hide (fun u => by rw [hZ1, ← lo_s1]; exact dLaidOver y2 17 19 10 u hl2 (by decide) (by decide) (by decide) (by decide) (by decide))
          obtain ⟨v0, hv0⟩ := (unhide HI).cell' hlt
          have hfz := (unhide HI).frozen k
          clear hZ0 hZ1 hl15 hl2
          have HVAL : Hid (Value.int .u32 ((((( y16 : Int) + y7) % 4294967296 + Z0) % 4294967296 + Z1) % 4294967296) = .int .u32 (Sha.wd b k : Nat)) := by
            show Value.int _ _ = Value.int _ _
            rw [unhide HV]
            congr 1
            have := unhide HL4
            have := unhide HZ0
            omega
          have HN := hide (fun (v1 v2 v3 : Value) (hv : v3 = .int .u32 (Sha.wd b k : Nat)) => And.intro (((((unhide HI).set0 v1).set0 v2).next0 v3 hv hlt).drew.drew.drew) (by
            obtain ⟨zs, hz1, hz2⟩ := unhide HZ
            exact ⟨zs, hz1, heap_set (heap_set (heap_set hz2 (by omega)) (by omega)) (by omega)⟩ : ∃ zs : Array Value, zs.size = 64 ∧ (((wr.setCell ⟨w.heap.size + 1 + 1, k, none⟩ v1).setCell ⟨w.heap.size + 1 + 1, k, none⟩ v2).setCell ⟨w.heap.size + 1 + 1, k, none⟩ v3).drew.drew.drew.heap[w.heap.size + 1]? = some (.cells zs 62 (0, 0))))
          go_wp2
          go_region_held3 (fun u => u.cell? ⟨w.heap.size + 1 + 1, a16, none⟩ = some (.int .u32 y16) ∧ u.cell? ⟨w.heap.size + 1 + 1, a7, none⟩ = some (.int .u32 y7)) (first | (go_keep; done) | exact ⟨keepS c16 n16, keepS c7 n7⟩) (fail)
          go_wp2
          go_region_with (go_at_call 56; refine (unhide M1 _).mono ?_; rintro e w1 ⟨rfl, rfl⟩)
          all_goals go_wp2
          all_goals go_region_with (go_at_call 56; refine (unhide M2 _).mono ?_; rintro e w1 ⟨rfl, rfl⟩)
          all_goals go_wp2
          all_goals go_roundw
          all_goals first
            | exact ⟨_, _, _, _, _, _, _, _, _, _, _, _, _, _, _, _, _, _, _, _, _, _, _, _, _, _, _, _, _, _, _, _, _, _, _, _, ⟨k + 1, _, by omega, by omega, by go_num, hide (unhide HN _ _ _ (unhide HVAL)).1, hide (unhide HN _ _ _ (unhide HVAL)).2⟩, rfl⟩
            | (simp [intOf]; omega)
        · have hkk : k = 64 := by omega
          subst hkk
          obtain ⟨zs, h3, h4⟩ := unhide HZ
          have h6 := (unhide HI).row
          have h1 := (unhide HI).size
          have hu := Try.underlying62
          have hi : (Try.prog.info? 62).map (·.size) = some ts.size := by rw [infoW, h1]
          go_wp2_with (first | (refine wpList_load_row rfl 62 (.tmp 3) rfl (w.heap.size + 1 + 1) rfl 62 ts (0, 0) _ h6 hu rfl hi ?_) | (refine wpList_store_row rfl 62 (.tmp 2) (.tmp 62) rfl (w.heap.size + 1) ts rfl rfl 62 zs h4 hi (by rw [h3, h1]) (unhide HI).is.one ?_))
          refine bodyPost_ret (results_cell_row rfl _ _ (w.heap.size + 1) 62 ts (0, 0) _ rfl (heapRow_same h4 ts) hu rfl hi) rfl ?_
          exact ⟨⟨ts, rfl, (unhide HI).is⟩, belowRow (unhide HI).bel (by omega) _⟩
end Go.Proofs.Ytpbifpbblinopaa
