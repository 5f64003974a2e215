/- The page by the document: laid, Encode. -/
import Derived.Test.YtkmcjjlkammlaaaDoorPe
import Derived.Test.YtkmcjjlkammlaaaDoorPf
namespace Go.Proofs.YtkmcjjlkammlaaaDoor
open Go.RowKit Go.Lib

/-- a page in memory -/
structure Xb (w u : World) (X : Nat) (cs : Array Value) : Prop where
  x : ∀ k, u.cell? ⟨X, k, none⟩ = cs[k]?
  xl : X < u.heap.size
  bel : Below w.heap.size w u
theorem Xb.below {w u u' : World} {X : Nat} {cs : Array Value} (h : Xb w u X cs) (hb : Below u.heap.size u u') : Xb w u' X cs :=
  ⟨fun k => (hb.cell (p := ⟨X, k, none⟩) h.xl).trans (h.x k), Nat.lt_of_lt_of_le h.xl hb.size, h.bel.trans (hb.mono h.bel.size)⟩
theorem Xb.drew {w u : World} {X : Nat} {cs : Array Value} (h : Xb w u X cs) : Xb w u.drew X cs := h.below ⟨rfl, rfl, rfl, Nat.le_refl _, fun _ _ => rfl⟩
theorem Xb.start (w : World) (cs : Array Value) (t : TypeId) : Xb w (w.alloc (.cells cs t)) w.heap.size cs :=
  ⟨fun k => cellOf (heap_alloc_new w (.cells cs t)) k, by simp, (Below.refl w.heap.size w).alloc (Nat.le_refl _) _⟩
theorem str_eq {a : ByteArray} {l : List UInt8} (h : a.data.toList = l) : a = ⟨l.toArray⟩ := by
  cases a with
  | mk d => simp only at h; subst h; simp
theorem fix1 (k : Nat) : fixB k 1 = [UInt8.ofNat k] := by simp [fixB]
set_option maxRecDepth 100000 in
set_option maxHeartbeats 4000000 in
theorem mLaid (p : Pg) (hp : p.Fit) (hs : p.body.size ≤ 996) (sum : Nat) (hsum : sum < 4294967296) (w : World) :
    Calls Tryd.prog 20 #[.agg p.cs, .int .u32 (sum : Int)] w fun e w' => e = .returned (.string ⟨(p.bytes sum).toArray⟩) ∧ Below w.heap.size w w' := by
  have HEQ : Hid (p.bytes sum = fixB p.ser 8 ++ fixB p.kind 1 ++ zeros 1 ++ fixB p.body.size 2 ++ fixB p.num 4 ++ fixB sum 4 ++ p.body.data.toList ++ zeros (996 - p.body.size) ++ fixB p.ser 8) := by
    show _ = _
    rw [Pg.bytes, Pg.fr, fix1]
    simp only [List.append_assoc]
    rfl
  generalize p.bytes sum = R at *
  obtain ⟨kd, nm, sr, bd⟩ := p
  obtain ⟨h1, h2, h3⟩ := hp
  simp only at h1 h2 h3 hs HEQ
  show Calls Tryd.prog 20 #[.agg #[.int .u8 (kd : Int), .int .u32 (nm : Int), .int .u64 (sr : Int), .string bd], .int .u32 (sum : Int)] w _
  have HJ := hide (Xb.start w #[.int .u8 (kd : Int), .int .u32 (nm : Int), .int .u64 (sr : Int), .string bd] 25)
  have HF1 := hide (fun u => mwFixed sr 8 u h3 (by decide))
  have HF2 := hide (fun u => mwFixed kd 1 u (by omega) (by decide))
  have HF3 := hide (fun u => mwFixed bd.size 2 u (by omega) (by decide))
  have HF4 := hide (fun u => mwFixed nm 4 u (by omega) (by decide))
  have HF5 := hide (fun u => mwFixed sum 4 u (by omega) (by decide))
  have HN1 := hide (fun u => mNoughts 1 (by decide) u)
  have HN2 := hide (fun u => mNoughts (996 - bd.size) (by omega) u)
  rw [show ((996 - bd.size : Nat) : Int) = 996 - (bd.size : Int) from by omega] at HN2
  obtain ⟨S8, hS8⟩ : ∃ s : ByteArray, s = ⟨(fixB sr 8).toArray⟩ := ⟨_, rfl⟩
  obtain ⟨S1, hS1⟩ : ∃ s : ByteArray, s = ⟨(fixB kd 1).toArray⟩ := ⟨_, rfl⟩
  obtain ⟨S2, hS2⟩ : ∃ s : ByteArray, s = ⟨(fixB bd.size 2).toArray⟩ := ⟨_, rfl⟩
  obtain ⟨S4, hS4⟩ : ∃ s : ByteArray, s = ⟨(fixB nm 4).toArray⟩ := ⟨_, rfl⟩
  obtain ⟨S5, hS5⟩ : ∃ s : ByteArray, s = ⟨(fixB sum 4).toArray⟩ := ⟨_, rfl⟩
  obtain ⟨Z1, hZ1⟩ : ∃ s : ByteArray, s = ⟨(zeros 1).toArray⟩ := ⟨_, rfl⟩
  obtain ⟨Z2, hZ2⟩ : ∃ s : ByteArray, s = ⟨(zeros (996 - bd.size)).toArray⟩ := ⟨_, rfl⟩
  rw [← hS8] at HF1
  rw [← hS1] at HF2
  rw [← hS2] at HF3
  rw [← hS4] at HF4
  rw [← hS5] at HF5
  rw [← hZ1] at HN1
  rw [← hZ2] at HN2
  have HRR : Hid (R = S8.data.toList ++ S1.data.toList ++ Z1.data.toList ++ S2.data.toList ++ S4.data.toList ++ S5.data.toList ++ bd.data.toList ++ Z2.data.toList ++ S8.data.toList) := by
    show R = _
    rw [unhide HEQ, hS8, hS1, hZ1, hS2, hS4, hS5, hZ2]
  have b0 : (kd : Int) < 256 := by omega
  have b1 : (nm : Int) < 4294967296 := by omega
  have b2 : (bd.size : Int) ≤ 996 := by omega
  have b3 : (sum : Int) < 4294967296 := by omega
  have v0 : IntKind.u64.wrap (kd : Int) = (kd : Int) := by rw [IntKind.wrap_u64]; omega
  have v1 : IntKind.u64.wrap (nm : Int) = (nm : Int) := by rw [IntKind.wrap_u64]; omega
  have v2 : IntKind.u64.wrap (bd.size : Int) = (bd.size : Int) := by rw [IntKind.wrap_u64]; omega
  have v3 : IntKind.u64.wrap (sum : Int) = (sum : Int) := by rw [IntKind.wrap_u64]; omega
  have kS8 : S8.size = 8 := by rw [← size_toList, hS8]; exact fixB_length _ _
  have kS1 : S1.size = 1 := by rw [← size_toList, hS1]; exact fixB_length _ _
  have kS2 : S2.size = 2 := by rw [← size_toList, hS2]; exact fixB_length _ _
  have kS4 : S4.size = 4 := by rw [← size_toList, hS4]; exact fixB_length _ _
  have kS5 : S5.size = 4 := by rw [← size_toList, hS5]; exact fixB_length _ _
  have kZ1 : Z1.size = 1 := by rw [← size_toList, hZ1]; rfl
  have kZ2 : Z2.size ≤ 996 := by rw [← size_toList, hZ2]; simp only [zeros, List.length_replicate]; omega
  clear hS8 hS1 hS2 hS4 hS5 hZ1 hZ2 h1 h2 h3 hs hsum HEQ
  go_enter Tryd.func20, Tryd.ntmps20
  go_wp2
  generalize (w.alloc (.cells #[.int .u8 (kd : Int), .int .u32 (nm : Int), .int .u64 (sr : Int), .string bd] 25)) = w0 at *
  have HJ := hide (unhide HJ).drew
  have x0 := (unhide HJ).x 0
  have x1 := (unhide HJ).x 1
  have x2 := (unhide HJ).x 2
  have x3 := (unhide HJ).x 3
  simp only [List.getElem?_toArray, List.getElem?_cons_zero, List.getElem?_cons_succ] at x0 x1 x2 x3
  go_region_held3 (fun u => u.cell? ⟨w.heap.size, 0, none⟩ = some (.int .u8 (kd : Int)) ∧ u.cell? ⟨w.heap.size, 1, none⟩ = some (.int .u32 (nm : Int)) ∧ u.cell? ⟨w.heap.size, 2, none⟩ = some (.int .u64 (sr : Int)) ∧ u.cell? ⟨w.heap.size, 3, none⟩ = some (.string bd)) (first | (go_keep; done) | exact ⟨z0, z1, z2, z3⟩) (first | (go_at_call_of 28 (Value.int .u64 (sr : Int)); refine (unhide HF1 _).mono ?_; rintro e w5 ⟨rfl, hb5⟩; have HJ := hide ((unhide HJ).below hb5); have z0 := (unhide HJ).x 0; have z1 := (unhide HJ).x 1; have z2 := (unhide HJ).x 2; have z3 := (unhide HJ).x 3; simp only [List.getElem?_toArray, List.getElem?_cons_zero, List.getElem?_cons_succ] at z0 z1 z2 z3; clear hb5) | (go_at_call_of 28 (Value.int .u64 (kd : Int)); refine (unhide HF2 _).mono ?_; rintro e w5 ⟨rfl, hb5⟩; have HJ := hide ((unhide HJ).below hb5); have z0 := (unhide HJ).x 0; have z1 := (unhide HJ).x 1; have z2 := (unhide HJ).x 2; have z3 := (unhide HJ).x 3; simp only [List.getElem?_toArray, List.getElem?_cons_zero, List.getElem?_cons_succ] at z0 z1 z2 z3; clear hb5) | (go_at_call_of 29 (Value.int .i64 1); refine (unhide HN1 _).mono ?_; rintro e w5 ⟨rfl, hb5⟩; have HJ := hide ((unhide HJ).below hb5); have z0 := (unhide HJ).x 0; have z1 := (unhide HJ).x 1; have z2 := (unhide HJ).x 2; have z3 := (unhide HJ).x 3; simp only [List.getElem?_toArray, List.getElem?_cons_zero, List.getElem?_cons_succ] at z0 z1 z2 z3; clear hb5) | (go_at_call_of 28 (Value.int .u64 (bd.size : Int)); refine (unhide HF3 _).mono ?_; rintro e w5 ⟨rfl, hb5⟩; have HJ := hide ((unhide HJ).below hb5); have z0 := (unhide HJ).x 0; have z1 := (unhide HJ).x 1; have z2 := (unhide HJ).x 2; have z3 := (unhide HJ).x 3; simp only [List.getElem?_toArray, List.getElem?_cons_zero, List.getElem?_cons_succ] at z0 z1 z2 z3; clear hb5))
  clear x0 x1 x2 x3 z0 z1 z2 z3
  obtain ⟨T1, hT1⟩ : ∃ s, s = S8 ++ S1 ++ Z1 ++ S2 := ⟨_, rfl⟩
  have kT1 : T1.size = 12 := by rw [hT1]; simp only [ByteArray.size_append]; omega
  have HT1 := hide hT1
  rw [← hT1]
  clear hT1
  have g1 : ∀ W, (Op.stringOp .add (T1 ++ S4 ++ S5) bd).run Tryd.prog W = .ok (.string (T1 ++ S4 ++ S5 ++ bd)) W := fun W => run_string_add_sum W _ _ (by simp only [ByteArray.size_append]; omega)
  have g2 : ∀ W, (Op.stringOp .add (T1 ++ S4 ++ S5 ++ bd) Z2).run Tryd.prog W = .ok (.string (T1 ++ S4 ++ S5 ++ bd ++ Z2)) W := fun W => run_string_add_sum W _ _ (by simp only [ByteArray.size_append]; omega)
  have g7 : IntKind.i64.wrap (996 - (bd.size : Int)) = 996 - (bd.size : Int) := wrap_small _ (by omega) (by omega)
  have g3 : bd.size ≤ 9223372036854775787 := by omega
  have g4 : 20 + bd.size ≤ 9223372036854775807 := by omega
  have g5 : 12 + 4 + 4 + bd.size ≤ 9223372036854775807 := by omega
  have g6 : 20 + bd.size + Z2.size ≤ 9223372036854775807 := by omega
  go_wp2
  have HJ := hide (unhide HJ).drew
  have x0 := (unhide HJ).x 0
  have x1 := (unhide HJ).x 1
  have x2 := (unhide HJ).x 2
  have x3 := (unhide HJ).x 3
  simp only [List.getElem?_toArray, List.getElem?_cons_zero, List.getElem?_cons_succ] at x0 x1 x2 x3
  go_region_held3 (fun u => u.cell? ⟨w.heap.size, 0, none⟩ = some (.int .u8 (kd : Int)) ∧ u.cell? ⟨w.heap.size, 1, none⟩ = some (.int .u32 (nm : Int)) ∧ u.cell? ⟨w.heap.size, 2, none⟩ = some (.int .u64 (sr : Int)) ∧ u.cell? ⟨w.heap.size, 3, none⟩ = some (.string bd)) (first | (go_keep; done) | exact ⟨z0, z1, z2, z3⟩) (first | (go_at_call_of 28 (Value.int .u64 (nm : Int)); refine (unhide HF4 _).mono ?_; rintro e w5 ⟨rfl, hb5⟩; have HJ := hide ((unhide HJ).below hb5); have z0 := (unhide HJ).x 0; have z1 := (unhide HJ).x 1; have z2 := (unhide HJ).x 2; have z3 := (unhide HJ).x 3; simp only [List.getElem?_toArray, List.getElem?_cons_zero, List.getElem?_cons_succ] at z0 z1 z2 z3; clear hb5) | (go_at_call_of 28 (Value.int .u64 (sum : Int)); refine (unhide HF5 _).mono ?_; rintro e w5 ⟨rfl, hb5⟩; have HJ := hide ((unhide HJ).below hb5); have z0 := (unhide HJ).x 0; have z1 := (unhide HJ).x 1; have z2 := (unhide HJ).x 2; have z3 := (unhide HJ).x 3; simp only [List.getElem?_toArray, List.getElem?_cons_zero, List.getElem?_cons_succ] at z0 z1 z2 z3; clear hb5) | (go_at_call 29; refine (unhide HN2 _).mono ?_; rintro e w5 ⟨rfl, hb5⟩; have HJ := hide ((unhide HJ).below hb5); have z0 := (unhide HJ).x 0; have z1 := (unhide HJ).x 1; have z2 := (unhide HJ).x 2; have z3 := (unhide HJ).x 3; simp only [List.getElem?_toArray, List.getElem?_cons_zero, List.getElem?_cons_succ] at z0 z1 z2 z3; clear hb5))
  clear x0 x1 x2 x3 z0 z1 z2 z3
  obtain ⟨T2, hT2⟩ : ∃ s, s = T1 ++ S4 ++ S5 ++ bd ++ Z2 := ⟨_, rfl⟩
  have kT2 : T2.size ≤ 2100 := by rw [hT2]; simp only [ByteArray.size_append]; omega
  have HT2 := hide hT2
  rw [← hT2]
  clear hT2
  have x0 := (unhide HJ).x 0
  have x1 := (unhide HJ).x 1
  have x2 := (unhide HJ).x 2
  have x3 := (unhide HJ).x 3
  simp only [List.getElem?_toArray, List.getElem?_cons_zero, List.getElem?_cons_succ] at x0 x1 x2 x3
  go_wp2_with fail
  refine (unhide HF1 _).mono ?_
  rintro e w6 ⟨rfl, hb6⟩
  have HJ := hide ((unhide HJ).below hb6)
  clear hb6 x0 x1 x2 x3
  have HFN : Hid (T2 ++ S8 = ⟨R.toArray⟩) := by
    refine str_eq ?_
    rw [unhide HT2, unhide HT1, unhide HRR]
    simp only [ByteArray.data_append, Array.toList_append, List.append_assoc]
  go_wp2
  go_ret
  rw [← unhide HFN]
  exact ⟨rfl, (unhide HJ).bel⟩
theorem mEncodeBad (p : Pg) (hp : p.wrong ≠ 0) (w : World) : Calls Tryd.prog 9 #[.agg p.cs] w fun e w' => e = .returned (.tuple #[.string ⟨#[]⟩, .int .i64 p.wrong]) ∧ Below w.heap.size w w' := by
  obtain ⟨kind, num, ser, body⟩ := p
  show Calls Tryd.prog 9 #[.agg #[.int .u8 (kind : Int), .int .u32 (num : Int), .int .u64 (ser : Int), .string body]] w _
  have HB := hide ((Below.refl w.heap.size w).alloc (Nat.le_refl _) (.cells #[.int .u8 (kind : Int), .int .u32 (num : Int), .int .u64 (ser : Int), .string body] 25))
  by_cases h1 : 4611686018427387904 < ser
  · have e : Pg.wrong ⟨kind, num, ser, body⟩ = 1 := if_pos h1
    rw [e]
    have h1i : (4611686018427387904 : Int) < (ser : Int) := by omega
    clear e h1 hp
    go_enter Tryd.func9, Tryd.ntmps9
    go_wp2
    go_ret2
    exact ⟨rfl, unhide HB⟩
  · by_cases h2 : 996 < body.size
    · have e : Pg.wrong ⟨kind, num, ser, body⟩ = 82 := by rw [Pg.wrong, if_neg h1, if_pos h2]
      rw [e]
      have h1i : ¬ (4611686018427387904 : Int) < (ser : Int) := by omega
      have h2i : (996 : Int) < (body.size : Int) := by omega
      clear e h1 h2 hp
      go_enter Tryd.func9, Tryd.ntmps9
      go_wp2
      go_ret2
      exact ⟨rfl, unhide HB⟩
    · exact absurd (by rw [Pg.wrong, if_neg h1, if_neg h2]) hp
set_option maxRecDepth 100000 in
set_option maxHeartbeats 2000000 in
theorem mEncode (p : Pg) (hf : p.Fit) (hp : p.wrong = 0) (w : World) : Calls Tryd.prog 9 #[.agg p.cs] w fun e w' => e = .returned (.tuple #[.string ⟨p.enc.toArray⟩, .int .i64 0]) ∧ Below w.heap.size w w' := by
  obtain ⟨h1, h2⟩ := Pg.may hp
  have hsl : p.sum < 4294967296 := by rw [Pg.sum]; omega
  have hlen : (p.bytes 0).length = 1024 := p.bytes_len h2 0
  have HL0 := hide (fun u => mLaid p hf h2 0 (by decide) u)
  have HL1 := hide (fun u => mLaid p hf h2 p.sum hsl u)
  obtain ⟨T, hT⟩ : ∃ T : ByteArray, T = ⟨(p.bytes 0).toArray⟩ := ⟨_, rfl⟩
  have hTs : T.size = 1024 := by rw [← size_toList, hT]; exact hlen
  have HS := hide (fun u => mSum T u (by rw [hTs]; decide))
  have hfo : 4294967295 - Crc.fold T.data.toList 4294967295 = p.sum := by rw [hT]; rfl
  rw [hfo] at HS
  have HL2 : Hid (∀ u, Calls Tryd.prog 20 #[.agg p.cs, .int .u32 0] u fun e w' => e = .returned (.string T) ∧ Below u.heap.size u w') := fun u => by rw [hT]; exact unhide HL0 u
  have HL3 : Hid (∀ u, Calls Tryd.prog 20 #[.agg p.cs, .int .u32 (p.sum : Int)] u fun e w' => e = .returned (.string ⟨p.enc.toArray⟩) ∧ Below u.heap.size u w') := fun u => unhide HL1 u
  generalize p.enc = E at *
  generalize p.sum = sv at *
  clear HL0 HL1 hTs hfo hT hlen hf hp
  obtain ⟨kd, nm, sr, bd⟩ := p
  simp only at h1 h2
  have HL4 : Hid (∀ u, Calls Tryd.prog 20 #[.agg #[.int .u8 (kd : Int), .int .u32 (nm : Int), .int .u64 (sr : Int), .string bd], .int .u32 0] u fun e w' => e = .returned (.string T) ∧ Below u.heap.size u w') := unhide HL2
  have HL5 : Hid (∀ u, Calls Tryd.prog 20 #[.agg #[.int .u8 (kd : Int), .int .u32 (nm : Int), .int .u64 (sr : Int), .string bd], .int .u32 (sv : Int)] u fun e w' => e = .returned (.string ⟨E.toArray⟩) ∧ Below u.heap.size u w') := unhide HL3
  show Calls Tryd.prog 9 #[.agg #[.int .u8 (kd : Int), .int .u32 (nm : Int), .int .u64 (sr : Int), .string bd]] w _
  have HJ := hide (Xb.start w #[.int .u8 (kd : Int), .int .u32 (nm : Int), .int .u64 (sr : Int), .string bd] 25)
  have b1 : ¬ (4611686018427387904 : Int) < (sr : Int) := by omega
  have b2 : ¬ (996 : Int) < (bd.size : Int) := by omega
  clear HL2 HL3 h1 h2
  go_enter Tryd.func9, Tryd.ntmps9
  go_wp2
  generalize (w.alloc (.cells #[.int .u8 (kd : Int), .int .u32 (nm : Int), .int .u64 (sr : Int), .string bd] 25)) = w0 at *
  have HJ := hide (unhide HJ).drew
  have x0 := (unhide HJ).x 0
  have x1 := (unhide HJ).x 1
  have x2 := (unhide HJ).x 2
  have x3 := (unhide HJ).x 3
  simp only [List.getElem?_toArray, List.getElem?_cons_zero, List.getElem?_cons_succ] at x0 x1 x2 x3
  go_region_held3 (fun u => u.cell? ⟨w.heap.size, 0, none⟩ = some (.int .u8 (kd : Int)) ∧ u.cell? ⟨w.heap.size, 1, none⟩ = some (.int .u32 (nm : Int)) ∧ u.cell? ⟨w.heap.size, 2, none⟩ = some (.int .u64 (sr : Int)) ∧ u.cell? ⟨w.heap.size, 3, none⟩ = some (.string bd)) (first | (go_keep; done) | exact ⟨z0, z1, z2, z3⟩) (first
    | (go_at_call_of 20 (Value.int .u32 0); refine (unhide HL4 _).mono ?_; rintro e w5 ⟨rfl, hb5⟩; have HJ := hide ((unhide HJ).below hb5); have z0 := (unhide HJ).x 0; have z1 := (unhide HJ).x 1; have z2 := (unhide HJ).x 2; have z3 := (unhide HJ).x 3; simp only [List.getElem?_toArray, List.getElem?_cons_zero, List.getElem?_cons_succ] at z0 z1 z2 z3; clear hb5)
    | (go_at_call 21; refine (unhide HS _).mono ?_; rintro e wz ⟨rfl, rfl⟩)
    | (go_at_call_of 20 (Value.int .u32 (sv : Int)); refine (unhide HL5 _).mono ?_; rintro e w6 ⟨rfl, hb5⟩; have HJ := hide ((unhide HJ).below hb5); have z0 := (unhide HJ).x 0; have z1 := (unhide HJ).x 1; have z2 := (unhide HJ).x 2; have z3 := (unhide HJ).x 3; simp only [List.getElem?_toArray, List.getElem?_cons_zero, List.getElem?_cons_succ] at z0 z1 z2 z3; clear hb5))
  go_wp2
  go_ret2
  exact ⟨rfl, (unhide HJ).bel⟩

end Go.Proofs.YtkmcjjlkammlaaaDoor
