/- The page: laid. -/
import Derived.Test.YtfdfbjijomepgaaDoorPl
import Derived.Test.YtfdfbjijomepgaaDoorPs
import Derived.Lib.BufferWrite
import Derived.Lib.SlBuf
import Derived.Lib.ConvBytes
import Derived.Deep.RegionHeld3
import Derived.Deep.MidRow
import Derived.Deep.Heap
import Derived.Great.Walk
import Derived.Laws.Slices
import Derived.BigQuiet
namespace Go.Proofs.YtfdfbjijomepgaaDoor
open Go.RowKit Go.Lib

theorem zero_run {P : Program} {t : TypeId} {cells : Array Value} (hz : ((P.info? t).bind (·.zero)).map (·.cells) = some cells) (w : World) : ∃ z, (zeroValue t).run P w = .ok z w ∧ z.cells = cells := by
  cases hq : P.info? t with
  | none => simp [hq] at hz
  | some i =>
    cases hz' : i.zero with
    | none => simp [hq, hz'] at hz
    | some z => exact ⟨z, by simp [zeroValue, typeInfo, hq, hz'], by simpa [hq, hz'] using hz⟩
/-- a new variable -/
theorem wpList_alloc_row {P : Program} {ops : Array Oper} {rest : List Oper} {o : Oper} {a : Act} {w : World} {Q : Exit → Act → World → Prop} (hg : o.guard = none) (t : TypeId) (ho : o.op = .alloc t) (d : Option Tmp) (hd : o.dst = d)
    (N : Nat) (hN : w.heap.size = N) (cells : Array Value) (hz : ((P.info? t).bind (·.zero)).map (·.cells) = some cells)
    (h : ∀ w', Hid (w'.heap[N]? = some (.cells cells t (0, 0))) → Hid (Below N w w') → Hid (w'.heap.size = N + 1) → wpList P ops Q rest (a.put d (.pointer (some ⟨N, 0, none⟩))) w') : wpList P ops Q (o :: rest) a w := by
  subst hd hN
  obtain ⟨z, h1, h2⟩ := zero_run hz w
  refine wpList_plain hg fun K hK => ?_
  unfold Oper.wp execOp
  simp only [ho, Sem.run_bind, Instr.alloc, h1, newVar, newRow, run_newObj_alloc, Sem.run_pure, Result.andThen_ok, h2]
  exact hK _ _ (h _ (heap_alloc_new _ _) ((Below.refl _ _).alloc (Nat.le_refl _) _) (hide (by simp)))
/-- a new variable that holds a value -/
theorem wpList_box_row {P : Program} {ops : Array Oper} {rest : List Oper} {o : Oper} {a : Act} {w : World} {Q : Exit → Act → World → Prop} (hg : o.guard = none) (t : TypeId) (x : Operand) (ho : o.op = .box t x) (d : Option Tmp) (hd : o.dst = d)
    (N : Nat) (hN : w.heap.size = N) (cells : Array Value) (hx : (a.eval x).cells = cells)
    (h : ∀ w', Hid (w'.heap[N]? = some (.cells cells t (0, 0))) → Hid (Below N w w') → Hid (w'.heap.size = N + 1) → wpList P ops Q rest (a.put d (.pointer (some ⟨N, 0, none⟩))) w') : wpList P ops Q (o :: rest) a w := by
  subst hN
  exact Go.Great.wpList_boxTo hg t x ho d hd _ rfl cells hx (h _ (heap_alloc_new _ _) ((Below.refl _ _).alloc (Nat.le_refl _) _) (hide (by simp)))
theorem heapRow_same {w : World} {g : Nat} {cs : Array Value} {t : TypeId} {fr : Nat × Nat} (h : w.heap[g]? = some (.cells cs t fr)) (cs' : Array Value) : (w.setRow g cs').heap[g]? = some (.cells cs' t fr) := by
  simp [World.setRow, Array.getElem?_modify, h]
theorem heapRow_other (w : World) (g k : Nat) (cs' : Array Value) (h : k ≠ g) : (w.setRow g cs').heap[k]? = w.heap[k]? := by
  simp only [World.setRow, Array.getElem?_modify]
  rw [if_neg (by omega)]
theorem belowRow {B : Nat} {a w : World} (h : Below B a w) {g : Nat} (hg : B ≤ g) (cs' : Array Value) : Below B a (w.setRow g cs') :=
  ⟨h.os, h.tape, h.output, by simpa [World.setRow] using h.size, fun k hk => (heapRow_other w g k cs' (by omega)).trans (h.block k hk)⟩
theorem step_copy_run {P : Program} {ops : Array Oper} {o : Oper} {a : Act} {w : World} {K : Act → World → Prop} {Q : Exit → Act → World → Prop} {E : Prop}
    (hg : o.guard = none) (d x : Operand) (dT sT : TypeId) (hop : o.op = Op.call { callee := Callee.builtin Builtin.copy, args := #[d, x], argTypes := #[dT, sT] })
    (v u : Value) (hd : a.eval d = v) (hx : a.eval x = u) (ty : TypeId) (hty : o.type = ty) (v' : Value) (w' : World) (hr : (Builtin.copy_ #[dT, sT] ty #[v, u]).run P w = .ok v' w') (D : Option Tmp) (hD : o.dst = D) (hK : K (a.put D v') w') :
    if Region.wanted o (yielded ops a.tmps) = true then Oper.wp P o a w K Q else E := by
  subst hty hD
  have hw : Region.wanted o (yielded ops a.tmps) = true := by simp [Region.wanted, hg]
  rw [if_pos hw]
  exact Lib.wp_copy_run w d x dT sT hop v u hd hx hr hK
theorem wp_copy_to {P : Program} {o : Oper} {a : Act} {w : World} {K : Act → World → Prop} {Q : Exit → Act → World → Prop} (d x : Operand) (dT sT : TypeId) (hop : o.op = Op.call { callee := Callee.builtin Builtin.copy, args := #[d, x], argTypes := #[dT, sT] })
    (v u : Value) (hd : a.eval d = v) (hx : a.eval x = u) (ty : TypeId) (hty : o.type = ty) (v' : Value) (w' : World) (hr : (Builtin.copy_ #[dT, sT] ty #[v, u]).run P w = .ok v' w') (D : Option Tmp) (hD : o.dst = D) (hK : K (a.put D v') w') : o.wp P a w K Q := by
  subst hty hD
  exact Lib.wp_copy_run w d x dT sT hop v u hd hx hr hK
theorem Tab.below {w w' : World} {B : Nat} (h : Tab w) (hb : Below B w w') (hB : 0 < B) : Tab w' := fun i hi => (hb.cell (p := ⟨0, i, none⟩) hB).trans (h i hi)
theorem Tab.pos {w : World} (h : Tab w) : 0 < w.heap.size := by
  have h0 := h 0 (by decide)
  by_cases hz : w.heap.size = 0
  · have : w.heap = #[] := Array.eq_empty_of_size_eq_zero hz
    simp [World.cell?, this] at h0
  · omega
def img (l : List UInt8) : Array Value := (byteCells l).toArray
theorem img_size (l : List UInt8) : (img l).size = l.length := by simp [img, byteCells]
theorem img_at (l : List UInt8) (k : Nat) (h : k < l.length) : (img l)[k]? = some (.int .u8 (l[k].toNat : Int)) := by simp [img, byteCells, h]
theorem img_one (l : List UInt8) : (img l).all (·.oneCell') = true := by
  rw [Array.all_eq_true']
  intro v hv
  simp only [img, List.mem_toArray] at hv
  exact byteCells_one l v hv
def zeros (n : Nat) : List UInt8 := List.replicate n 0
theorem zeroImg : ((Tryd.prog.info? 126).bind (·.zero)).map (·.cells) = some (img (zeros 1024)) := by kernel_rfl
theorem imgLen : Tryd.prog.arrayLen 126 = 1024 := by kernel_rfl
theorem imgUnd : Tryd.prog.underlying 126 = some (.array (Tryd.prog.arrayLen 126) (Tryd.prog.elem 126)) := by kernel_rfl
theorem imgInfo : (Tryd.prog.info? 126).map (·.size) = some 1024 := by kernel_rfl
theorem u8Info : (Tryd.prog.info? 5).map (·.size) = some 1 := by kernel_rfl
theorem imgSize (W : World) : (sizeOf (Tryd.prog.elem 126)).run Tryd.prog W = .ok 1 W := by
  have h : (Tryd.prog.info? (Tryd.prog.elem 126)).map (·.size) = some 1 := by kernel_rfl
  cases hq : Tryd.prog.info? (Tryd.prog.elem 126) with
  | none => simp [hq] at h
  | some i => simp [sizeOf, typeInfo, hq] at h ⊢; exact h
theorem slAll (h : Nat) (W : World) : (Instr.sliceAt 126 (.pointer (some ⟨h, 0, none⟩)) none none none).run Tryd.prog W = .ok (.slice (some ⟨h, 0, none⟩) 1024 1024) W := by
  rw [run_sliceAt_array_all W 126 _ imgUnd, imgSize]
  simp only [Result.andThen_ok, slicedAt, imgLen]
  rfl
theorem slTo (h n : Nat) (hn : n < 1024) (W : World) : (Instr.sliceAt 126 (.pointer (some ⟨h, 0, none⟩)) none (some (.int .i64 (n : Int))) none).run Tryd.prog W = .ok (.slice (some ⟨h, 0, none⟩) n 1024) W := by
  rw [run_sliceAt_array_h W 126 _ imgUnd .i64 n (by omega) (by rw [imgLen]; omega), imgSize]
  simp only [Result.andThen_ok, slicedAt, imgLen, Int.toNat_natCast]
  rw [if_neg (by omega), Addr.add_mid]
  rfl
theorem slFrom (h n : Nat) (hn : n < 1024) (W : World) : (Instr.sliceAt 126 (.pointer (some ⟨h, 0, none⟩)) (some (.int .i64 (n : Int))) none none).run Tryd.prog W = .ok (.slice (some ⟨h, n, none⟩) (1024 - n) (1024 - n)) W := by
  rw [run_sliceAt_array_l W 126 _ imgUnd .i64 n (by omega) (by rw [imgLen]; omega), imgSize]
  simp only [Result.andThen_ok, slicedAt, imgLen, Int.toNat_natCast]
  rw [if_neg (by omega), Addr.add_mid]
  simp
theorem slMid (h n m : Nat) (hn : n ≤ m) (hm : m < 1024) (W : World) : (Instr.sliceAt 126 (.pointer (some ⟨h, 0, none⟩)) (some (.int .i64 (n : Int))) (some (.int .i64 (m : Int))) none).run Tryd.prog W = .ok (.slice (some ⟨h, n, none⟩) (m - n) (1024 - n)) W := by
  rw [run_sliceAt_array_lh W 126 _ imgUnd .i64 .i64 n m (by omega) (by omega) (by rw [imgLen]; omega), imgSize]
  simp only [Result.andThen_ok, slicedAt, imgLen, Int.toNat_natCast]
  rw [if_neg (by omega), Addr.add_mid]
  simp
/-- a page that is laid: what came in at X, the answer's place R, the bytes at G -/
structure Im (w u : World) (X R G : Nat) (cs : Array Value) (l : List UInt8) : Prop where
  x : u.heap[X]? = some (.cells cs 70 (0, 0))
  r : u.heap[R]? = some (.cells (img (zeros 1024)) 126 (0, 0))
  g : u.heap[G]? = some (.cells (img l) 126 (0, 0))
  len : l.length = 1024
  xg : X ≠ G
  rg : R ≠ G
  gx : w.heap.size ≤ X
  gr : w.heap.size ≤ R
  gg : w.heap.size ≤ G
  bel : Below w.heap.size w u
section
variable {w u u' : World} {X R G : Nat} {cs : Array Value} {l : List UInt8}
theorem Im.below (h : Im w u X R G cs l) (hb : Below u.heap.size u u') : Im w u' X R G cs l :=
  ⟨(hb.block X (Array.getElem?_eq_some_iff.1 h.x).1).trans h.x, (hb.block R (Array.getElem?_eq_some_iff.1 h.r).1).trans h.r, (hb.block G (Array.getElem?_eq_some_iff.1 h.g).1).trans h.g, h.len, h.xg, h.rg, h.gx, h.gr, h.gg, h.bel.trans (hb.mono h.bel.size)⟩
theorem Im.drew (h : Im w u X R G cs l) : Im w u.drew X R G cs l := h.below ⟨rfl, rfl, rfl, Nat.le_refl _, fun _ _ => rfl⟩
theorem Im.cell (h : Im w u X R G cs l) (k : Nat) : u.cell? ⟨X, k, none⟩ = cs[k]? := cellOf h.x k
theorem Im.row (h : Im w u X R G cs l) (l' : List UInt8) (hl : l'.length = 1024) : Im w (u.setRow G (img l')) X R G cs l' :=
  ⟨(heapRow_other u G X _ h.xg).trans h.x, (heapRow_other u G R _ h.rg).trans h.r, heapRow_same h.g _, hl, h.xg, h.rg, h.gx, h.gr, h.gg, belowRow h.bel h.gg _⟩
theorem Im.copy (h : Im w u X R G cs l) (o n cap : Nat) (s : ByteArray) (hs : s.size ≤ n) (ho : o + s.size ≤ 1024) :
    (Builtin.copy_ #[71, 9] 3 #[.slice (some ⟨G, o, none⟩) n cap, .string s]).run Tryd.prog u = .ok (goInt s.size) (u.setRow G (img (l.take o ++ s.data.toList ++ l.drop (o + s.size)))) := by
  have hl := h.len
  rw [run_copy_row_string u 71 9 3 5 G o n cap s (img l) 126 Tryd.underlying71 u8Info h.g hs (by rw [img_size, hl]; exact ho)]
  have e : ((img l).toList.take o ++ byteCells s.data.toList ++ (img l).toList.drop (o + s.size)).toArray = img (l.take o ++ s.data.toList ++ l.drop (o + s.size)) := by
    simp only [img, byteCells, List.map_append, List.map_take, List.map_drop]
  rw [e]
theorem Im.copy' (h : Im w u X R G cs l) (o n cap : Nat) (s : ByteArray) (m : Nat) (hm : s.size = m) (hs : m ≤ n) (ho : o + m ≤ 1024) (l' : List UInt8) (hl : l.take o ++ s.data.toList ++ l.drop (o + m) = l') :
    (Builtin.copy_ #[71, 9] 3 #[.slice (some ⟨G, o, none⟩) n cap, .string s]).run Tryd.prog u = .ok (.int .i64 (m : Int)) (u.setRow G (img l')) := by
  subst hm hl
  exact h.copy o n cap s hs ho
theorem Im.conv (h : Im w u X R G cs l) : (convert 71 9 (.slice (some ⟨G, 0, none⟩) 1024 1024)).run Tryd.prog u = .ok (.string ⟨l.toArray⟩) u := by
  have hl := h.len
  have := run_convert_bytes_back u 71 9 5 ⟨G, 0, none⟩ 1024 l Tryd.underlying71 Tryd.underlying5 Tryd.underlying9 fun j hj => by
    have e : (⟨G, 0, none⟩ : Addr).add j = ⟨G, j, none⟩ := by cases j <;> simp [Addr.add]
    rw [e, cellOf h.g, img_at l j hj]
  rw [hl] at this
  exact this
end
/-- a page's bytes with a sum -/
def Pg.bytes (p : Pg) (sum : Nat) : List UInt8 := p.fr ++ fixB sum 4 ++ p.body.data.toList ++ zeros (996 - p.body.size) ++ fixB p.ser 8
def Pg.sum (p : Pg) : Nat := 4294967295 - Crc.fold (p.bytes 0) 4294967295
def Pg.enc (p : Pg) : List UInt8 := p.bytes p.sum
theorem Pg.bytes_len (p : Pg) (hs : p.body.size ≤ 996) (c : Nat) : (p.bytes c).length = 1024 := by
  simp only [Pg.bytes, List.length_append, Pg.fr_len, fixB_length, zeros, List.length_replicate, size_toList]
  omega
theorem fix0 : fixB 0 4 = zeros 4 := by decide
theorem lay1 (fr : List UInt8) : (zeros 1024).take 0 ++ fr ++ (zeros 1024).drop (0 + 16) = fr ++ zeros 1008 := by
  rw [List.take_zero, List.nil_append, zeros, List.drop_replicate, zeros]
theorem lay2 (fr bd : List UInt8) (n : Nat) (h : fr.length = 16) (hb : bd.length = n) (hn : n ≤ 996) : (fr ++ zeros 1008).take 20 ++ bd ++ (fr ++ zeros 1008).drop (20 + n) = fr ++ zeros 4 ++ bd ++ zeros (1004 - n) := by
  rw [List.take_append, List.drop_append, h, List.take_of_length_le (by omega), List.drop_of_length_le (by omega)]
  simp only [zeros, List.take_replicate, List.drop_replicate, List.nil_append]
  rw [show min (20 - 16) 1008 = 4 from rfl, show 1008 - (20 + n - 16) = 1004 - n from by omega]
theorem lay3 (fr bd tl : List UInt8) (n : Nat) (h : fr.length = 16) (hb : bd.length = n) (hn : n ≤ 996) : (fr ++ zeros 4 ++ bd ++ zeros (1004 - n)).take 1016 ++ tl ++ (fr ++ zeros 4 ++ bd ++ zeros (1004 - n)).drop (1016 + 8) = fr ++ zeros 4 ++ bd ++ zeros (996 - n) ++ tl := by
  have e : (fr ++ zeros 4 ++ bd).length = 20 + n := by simp [zeros, h, hb]; omega
  rw [List.take_append, e, List.take_of_length_le (by omega), List.drop_of_length_le (by simp [zeros, h, hb]; omega), List.append_nil]
  simp only [zeros, List.take_replicate]
  rw [show min (1016 - (20 + n)) (1004 - n) = 996 - n from by omega]
theorem lay4 (fr bd tl sm : List UInt8) (n : Nat) (h : fr.length = 16) : (fr ++ zeros 4 ++ bd ++ zeros n ++ tl).take 16 ++ sm ++ (fr ++ zeros 4 ++ bd ++ zeros n ++ tl).drop (16 + 4) = fr ++ sm ++ bd ++ zeros n ++ tl := by
  simp only [List.append_assoc]
  rw [List.take_append_of_le_length (by omega), List.take_of_length_le (by omega)]
  congr 2
  rw [List.drop_append, h, List.drop_of_length_le (by omega), List.nil_append, show 16 + 4 - 16 = 4 from rfl, List.drop_append_of_le_length (by simp [zeros]), List.drop_of_length_le (by simp [zeros]), List.nil_append]
set_option maxRecDepth 100000 in
set_option maxHeartbeats 2000000 in
theorem pLaid (p : Pg) (hp : p.Fit) (hs : p.body.size ≤ 996) (w : World) (hT : Tab w) :
    Calls Tryd.prog 64 #[.agg p.cs] w fun e w' => e = .returned (.agg (img p.enc)) ∧ Below w.heap.size w w' := by
  obtain ⟨N, hN⟩ : ∃ N, N = w.heap.size := ⟨_, rfl⟩
  have HN := hide hN
  have HFR := hide (fun u => pFront p hp hs u)
  have HP := hide (And.intro hp hs)
  have HT := hide hT
  have hcs : p.cs = #[.int .u8 (p.kind : Int), .int .u32 (p.num : Int), .int .u64 (p.ser : Int), .string p.body] := rfl
  clear hN hT hp hs
  go_enter Tryd.func64, Tryd.ntmps64
  go_wp2_with (first
    | (refine wpList_box_row (by rfl) 70 (.tmp 0) (by rfl) (some 1) (by rfl) N (by exact (unhide HN).symm) p.cs (by rfl) ?_; intro W1 HX1 HB1 HS1; simp only [Act.put, List.setIfInBounds_toArray, List.set_cons_zero, List.set_cons_succ])
    | (refine wpList_alloc_row (by rfl) 126 (by rfl) (some 2) (by rfl) (N + 1) (by exact unhide HS1) (img (zeros 1024)) zeroImg ?_; intro W2 HX2 HB2 HS2; simp only [Act.put, List.setIfInBounds_toArray, List.set_cons_zero, List.set_cons_succ])
    | (refine wpList_alloc_row (by rfl) 126 (by rfl) (some 3) (by rfl) (N + 1 + 1) (by exact unhide HS2) (img (zeros 1024)) zeroImg ?_; intro W3 HX3 HB3 HS3; simp only [Act.put, List.setIfInBounds_toArray, List.set_cons_zero, List.set_cons_succ]))
  have HI : Hid (Im w W3 N (N + 1) (N + 1 + 1) p.cs (zeros 1024)) := by
    have h1 := unhide HB1
    have h2 := unhide HB2
    have h3 := unhide HB3
    have hN := unhide HN
    refine ⟨(h3.block N (by omega)).trans ((h2.block N (by omega)).trans (unhide HX1)), (h3.block (N + 1) (by omega)).trans (unhide HX2), unhide HX3, by rw [zeros, List.length_replicate], by omega, by omega, by omega, by omega, by omega, ?_⟩
    rw [← hN]
    exact (h1.trans (h2.mono (by omega))).trans (h3.mono (by omega))
  clear HX1 HX2 HX3 HB1 HB2 HB3 HS1 HS2 HS3
  generalize N + 1 + 1 = G at *
  generalize N + 1 = R at *
  obtain ⟨F, hF⟩ : ∃ F : ByteArray, F = ⟨p.fr.toArray⟩ := ⟨_, rfl⟩
  rw [← hF] at HFR
  have HF : Hid (F.data.toList = p.fr ∧ F.size = 16) := ⟨by rw [hF], by rw [← size_toList, hF]; exact p.fr_len⟩
  clear hF
  have HFR2 : Hid (∀ u, Calls Tryd.prog 73 #[.agg #[.int .u8 (p.kind : Int), .int .u32 (p.num : Int), .int .u64 (p.ser : Int), .string p.body]] u fun e w' => e = .returned (.string F) ∧ Below u.heap.size u w') := unhide HFR
  clear HFR
  have HFX := hide (fun u => pFixed p.ser 8 (by decide) (by decide) (unhide HP).1.ser u)
  obtain ⟨E8, hE8⟩ : ∃ F : ByteArray, F = ⟨(fixB p.ser (Int.toNat 8)).toArray⟩ := ⟨_, rfl⟩
  rw [← hE8] at HFX
  have HE8 : Hid (E8.data.toList = fixB p.ser 8 ∧ E8.size = 8) := ⟨by rw [hE8]; rfl, by rw [← size_toList, hE8]; exact fixB_length _ _⟩
  clear hE8
  obtain ⟨kd, hkd⟩ : ∃ k, k = p.kind := ⟨_, rfl⟩
  obtain ⟨nm, hnm⟩ : ∃ k, k = p.num := ⟨_, rfl⟩
  obtain ⟨sr, hsr⟩ : ∃ k, k = p.ser := ⟨_, rfl⟩
  obtain ⟨bd, hbd⟩ : ∃ k, k = p.body := ⟨_, rfl⟩
  obtain ⟨cs, hcs2⟩ : ∃ k, k = p.cs := ⟨_, rfl⟩
  have HEQ := hide (And.intro hkd (And.intro hnm (And.intro hsr (And.intro hbd hcs2))))
  have HC : Hid (cs = #[.int .u8 (kd : Int), .int .u32 (nm : Int), .int .u64 (sr : Int), .string bd]) := by show cs = _; rw [hcs2, hkd, hnm, hsr, hbd]; rfl
  rw [← hkd, ← hnm, ← hsr, ← hbd] at HFR2
  rw [← hsr] at HFX
  rw [← hcs2] at HI
  rw [← hcs2]
  clear hcs hkd hnm hsr hbd hcs2
  have hal := slAll G
  have HBs : Hid (bd.size ≤ 996) := by show bd.size ≤ 996; rw [(unhide HEQ).2.2.2.1]; exact (unhide HP).2
  obtain ⟨L1, hL1⟩ : ∃ L, L = p.fr ++ zeros 1008 := ⟨_, rfl⟩
  have HL1 := hide hL1
  have HLn1 : Hid (L1.length = 1024) := by
    show L1.length = 1024
    rw [hL1]
    simp only [List.length_append, Pg.fr_len, zeros, List.length_replicate]
  clear hL1
  have hsl : ∀ W, (Instr.sliceAt 126 (.pointer (some ⟨G, 0, none⟩)) none (some (.int .i64 16)) none).run Tryd.prog W = .ok (.slice (some ⟨G, 0, none⟩) 16 1024) W := slTo G 16 (by decide)
  have x0 := (unhide HI).cell 0
  have x1 := (unhide HI).cell 1
  have x2 := (unhide HI).cell 2
  have x3 := (unhide HI).cell 3
  rw [unhide HC] at x0 x1 x2 x3
  simp only [List.getElem?_toArray, List.getElem?_cons_zero, List.getElem?_cons_succ] at x0 x1 x2 x3
  have HId := hide (unhide HI).drew
  go_region_held3 (fun u => u.cell? ⟨N, 0, none⟩ = some (.int .u8 (kd : Int)) ∧ u.cell? ⟨N, 1, none⟩ = some (.int .u32 (nm : Int)) ∧ u.cell? ⟨N, 2, none⟩ = some (.int .u64 (sr : Int)) ∧ u.cell? ⟨N, 3, none⟩ = some (.string bd)) (first | (go_keep; done) | exact ⟨y0, y1, y2, y3⟩ | exact ⟨z0, z1, z2, z3⟩) (first | (go_at_call 73; refine (unhide HFR2 _).mono ?_; rintro e w5 ⟨rfl, hb5⟩; have HI5 := hide ((unhide HId).below hb5); have z0 := (unhide HI5).cell 0; have z1 := (unhide HI5).cell 1; have z2 := (unhide HI5).cell 2; have z3 := (unhide HI5).cell 3; rw [unhide HC] at z0 z1 z2 z3; simp only [List.getElem?_toArray, List.getElem?_cons_zero, List.getElem?_cons_succ] at z0 z1 z2 z3; have hcp := (unhide HI5).copy' 0 16 1024 F 16 (unhide HF).2 (by decide) (by decide) L1 (by rw [(unhide HF).1, unhide HL1]; exact lay1 _); clear hb5) | (refine step_copy_run (by rfl) _ _ 71 9 (by rfl) _ _ (by rfl) (by rfl) 3 (by rfl) _ _ hcp (some 7) (by rfl) ?_; have HI6 := hide ((unhide HI5).row L1 (unhide HLn1)); have y0 := (unhide HI6).cell 0; have y1 := (unhide HI6).cell 1; have y2 := (unhide HI6).cell 2; have y3 := (unhide HI6).cell 3; rw [unhide HC] at y0 y1 y2 y3; simp only [List.getElem?_toArray, List.getElem?_cons_zero, List.getElem?_cons_succ] at y0 y1 y2 y3))
  have HJ := hide (unhide HI6)
  clear hcp HI HId HI5 HI6 x0 x1 x2 x3 y0 y1 y2 y3 z0 z1 z2 z3
  generalize w5.setRow G (img L1) = V1 at *
  have HI := hide (unhide HJ)
  clear HJ
  go_wp2_with fail
  obtain ⟨L2, hL2⟩ : ∃ L, L = p.fr ++ zeros 4 ++ bd.data.toList ++ zeros (1004 - bd.size) := ⟨_, rfl⟩
  have HL2 := hide hL2
  have HLn2 : Hid (L2.length = 1024) := by
    show L2.length = 1024
    rw [hL2]
    simp only [List.length_append, Pg.fr_len, zeros, List.length_replicate, size_toList]
    have := unhide HBs
    omega
  clear hL2
  have hsm : ∀ W, (Instr.sliceAt 126 (.pointer (some ⟨G, 0, none⟩)) (some (.int .i64 20)) (some (.int .i64 1016)) none).run Tryd.prog W = .ok (.slice (some ⟨G, 20, none⟩) 996 1004) W := slMid G 20 1016 (by decide) (by decide)
  have x0 := (unhide HI).cell 0
  have x1 := (unhide HI).cell 1
  have x2 := (unhide HI).cell 2
  have x3 := (unhide HI).cell 3
  rw [unhide HC] at x0 x1 x2 x3
  simp only [List.getElem?_toArray, List.getElem?_cons_zero, List.getElem?_cons_succ] at x0 x1 x2 x3
  have HId := hide (unhide HI).drew
  have HI5 := hide (unhide HId)
  have hcp := (unhide HI5).copy' 20 996 1004 bd bd.size rfl (unhide HBs) (by have := unhide HBs; omega) L2 (by rw [unhide HL1, unhide HL2]; exact lay2 _ _ _ p.fr_len (size_toList _) (unhide HBs))
  go_region_held3 (fun u => u.cell? ⟨N, 0, none⟩ = some (.int .u8 (kd : Int)) ∧ u.cell? ⟨N, 1, none⟩ = some (.int .u32 (nm : Int)) ∧ u.cell? ⟨N, 2, none⟩ = some (.int .u64 (sr : Int)) ∧ u.cell? ⟨N, 3, none⟩ = some (.string bd)) (first | (go_keep; done) | exact ⟨y0, y1, y2, y3⟩ | exact ⟨z0, z1, z2, z3⟩) (first | (refine step_copy_run (by rfl) _ _ 71 9 (by rfl) _ _ (by rfl) (by rfl) 3 (by rfl) _ _ hcp (some 11) (by rfl) ?_; have HI6 := hide ((unhide HI5).row L2 (unhide HLn2)); have y0 := (unhide HI6).cell 0; have y1 := (unhide HI6).cell 1; have y2 := (unhide HI6).cell 2; have y3 := (unhide HI6).cell 3; rw [unhide HC] at y0 y1 y2 y3; simp only [List.getElem?_toArray, List.getElem?_cons_zero, List.getElem?_cons_succ] at y0 y1 y2 y3) | fail)
  have HJ := hide (unhide HI6)
  clear hcp HI HId HI5 HI6 x0 x1 x2 x3 y0 y1 y2 y3
  generalize V1.drew.setRow G (img L2) = V2 at *
  have HI := hide (unhide HJ)
  clear HJ
  go_wp2_with fail
  obtain ⟨L3, hL3⟩ : ∃ L, L = p.fr ++ zeros 4 ++ bd.data.toList ++ zeros (996 - bd.size) ++ fixB p.ser 8 := ⟨_, rfl⟩
  have HL3 := hide hL3
  have HLn3 : Hid (L3.length = 1024) := by
    show L3.length = 1024
    rw [hL3]
    simp only [List.length_append, Pg.fr_len, zeros, List.length_replicate, size_toList, fixB_length]
    have := unhide HBs
    omega
  clear hL3
  have hsf : ∀ W, (Instr.sliceAt 126 (.pointer (some ⟨G, 0, none⟩)) (some (.int .i64 1016)) none none).run Tryd.prog W = .ok (.slice (some ⟨G, 1016, none⟩) 8 8) W := slFrom G 1016 (by decide)
  have x0 := (unhide HI).cell 0
  have x1 := (unhide HI).cell 1
  have x2 := (unhide HI).cell 2
  have x3 := (unhide HI).cell 3
  rw [unhide HC] at x0 x1 x2 x3
  simp only [List.getElem?_toArray, List.getElem?_cons_zero, List.getElem?_cons_succ] at x0 x1 x2 x3
  have HId := hide (unhide HI).drew
  go_region_held3 (fun u => u.cell? ⟨N, 0, none⟩ = some (.int .u8 (kd : Int)) ∧ u.cell? ⟨N, 1, none⟩ = some (.int .u32 (nm : Int)) ∧ u.cell? ⟨N, 2, none⟩ = some (.int .u64 (sr : Int)) ∧ u.cell? ⟨N, 3, none⟩ = some (.string bd)) (first | (go_keep; done) | exact ⟨y0, y1, y2, y3⟩ | exact ⟨z0, z1, z2, z3⟩) (first | (go_at_call 74; refine (unhide HFX _).mono ?_; rintro e w5 ⟨rfl, hb5⟩; have HI5 := hide ((unhide HId).below hb5); have z0 := (unhide HI5).cell 0; have z1 := (unhide HI5).cell 1; have z2 := (unhide HI5).cell 2; have z3 := (unhide HI5).cell 3; rw [unhide HC] at z0 z1 z2 z3; simp only [List.getElem?_toArray, List.getElem?_cons_zero, List.getElem?_cons_succ] at z0 z1 z2 z3; have hcp := (unhide HI5).copy' 1016 8 8 E8 8 (unhide HE8).2 (by decide) (by decide) L3 (by rw [unhide HL2, (unhide HE8).1, unhide HL3]; exact lay3 _ _ _ _ p.fr_len (size_toList _) (unhide HBs)); clear hb5) | (refine step_copy_run (by rfl) _ _ 71 9 (by rfl) _ _ (by rfl) (by rfl) 3 (by rfl) _ _ hcp (some 16) (by rfl) ?_; have HI6 := hide ((unhide HI5).row L3 (unhide HLn3)); have y0 := (unhide HI6).cell 0; have y1 := (unhide HI6).cell 1; have y2 := (unhide HI6).cell 2; have y3 := (unhide HI6).cell 3; rw [unhide HC] at y0 y1 y2 y3; simp only [List.getElem?_toArray, List.getElem?_cons_zero, List.getElem?_cons_succ] at y0 y1 y2 y3))
  have HJ := hide (unhide HI6)
  clear hcp HI HId HI5 HI6 x0 x1 x2 x3 y0 y1 y2 y3 z0 z1 z2 z3
  generalize w5.setRow G (img L3) = V3 at *
  have HI := hide (unhide HJ)
  clear HJ
  go_wp2_with fail
  have HB0 : Hid (L3 = p.bytes 0) := by
    show L3 = _
    rw [unhide HL3, Pg.bytes, fix0, (unhide HEQ).2.2.2.1]
  obtain ⟨sv, hsv⟩ : ∃ sv, sv = p.sum := ⟨_, rfl⟩
  have hsv3 : (sv : Int) < 4294967296 := by
    rw [hsv, Pg.sum]
    omega
  have HSV := hide hsv
  have hsl3 : (⟨L3.toArray⟩ : ByteArray).size = 1024 := by rw [← size_toList]; exact unhide HLn3
  have HSm := hide (cSum ⟨L3.toArray⟩ V3.drew (by rw [hsl3]; decide) ((unhide HT).below (unhide HI).drew.bel (unhide HT).pos))
  have hfold : 4294967295 - Crc.fold ((⟨L3.toArray⟩ : ByteArray).data.toList) 4294967295 = sv := by
    show 4294967295 - Crc.fold L3.toArray.toList 4294967295 = sv
    rw [List.toList_toArray, unhide HB0, hsv, Pg.sum]
  rw [hfold] at HSm
  have HF4 := hide (fun u => pFixed sv 4 (by decide) (by decide) (by show sv < 4294967296; omega) u)
  obtain ⟨E4, hE4⟩ : ∃ F : ByteArray, F = ⟨(fixB sv (Int.toNat 4)).toArray⟩ := ⟨_, rfl⟩
  rw [← hE4] at HF4
  have HE4 : Hid (E4.data.toList = fixB sv 4 ∧ E4.size = 4) := ⟨by rw [hE4]; rfl, by rw [← size_toList, hE4]; exact fixB_length _ _⟩
  clear hE4 hfold hsl3 hsv
  obtain ⟨L4, hL4⟩ : ∃ L, L = p.enc := ⟨_, rfl⟩
  have HL4 := hide hL4
  have HLn4 : Hid (L4.length = 1024) := by show L4.length = 1024; rw [hL4]; exact p.bytes_len (unhide HP).2 _
  have hsn : ∀ W, (Instr.sliceAt 126 (.pointer (some ⟨G, 0, none⟩)) (some (.int .i64 16)) (some (.int .i64 20)) none).run Tryd.prog W = .ok (.slice (some ⟨G, 16, none⟩) 4 1008) W := slMid G 16 20 (by decide) (by decide)
  clear hL4
  have HCV := hide (fun u (hu : Im w u N R G cs L3) => hu.conv)
  generalize (⟨L3.toArray⟩ : ByteArray) = T3 at *
  refine wp_region_last (fun u => Im w u N R G cs L3) 6 (by kernel_rfl) (unhide HI).drew fun hS => ?_
  refine wpAnyL_take 0 17 (.slice (some ⟨G, 16, none⟩) 4 1008) [] rfl rfl (by kernel_rfl) (by kernel_rfl) (by kernel_rfl) (by kernel_rfl) (by kernel_rfl) (fun _ _ _ h => h) (by rfl) (fun u _ => by go_simp) hS ?_
  simp only [Act.put, List.setIfInBounds_toArray, List.set_cons_zero, List.set_cons_succ]
  refine wpAnyL_take 1 18 (.slice (some ⟨G, 0, none⟩) 1024 1024) [2, 3, 4, 5] rfl rfl (by kernel_rfl) (by kernel_rfl) (by kernel_rfl) (by kernel_rfl) (by kernel_rfl) (fun _ _ _ h => h) (by rfl) (fun u _ => by go_simp) hS ?_
  simp only [Act.put, List.setIfInBounds_toArray, List.set_cons_zero, List.set_cons_succ]
  refine wpAnyL_take 2 19 (.string T3) [3, 4, 5] rfl rfl (by kernel_rfl) (by kernel_rfl) (by kernel_rfl) (by kernel_rfl) (by kernel_rfl) (fun _ _ _ h => h) (by rfl) (fun u hu => (by have h := unhide HCV u hu; show Sem.run _ (do pure (Next.value (← convert 71 9 (.slice (some ⟨G, 0, none⟩) 1024 1024)))) u = _; simp only [Sem.run_bind, h, Result.andThen_ok, Sem.run_pure])) hS ?_
  simp only [Act.put, List.setIfInBounds_toArray, List.set_cons_zero, List.set_cons_succ]
  refine wpAnyL_one (i := 3) (by kernel_rfl) rfl (by rfl) fun K hK => ?_
  go_simp
  refine (unhide HSm).mono ?_
  rintro e w1 ⟨rfl, hw1⟩
  obtain rfl := hw1.symm
  refine hK _ _ (fun _ => hS) ?_
  clear hK K hw1
  refine wpAnyL_take 4 21 (.int .u64 (sv : Int)) [5] rfl rfl (by kernel_rfl) (by kernel_rfl) (by kernel_rfl) (by kernel_rfl) (by kernel_rfl) (fun _ _ _ h => h) (by rfl) (fun u _ => by go_simp; rw [IntKind.wrap_u64]; omega) hS ?_
  simp only [Act.put, List.setIfInBounds_toArray, List.set_cons_zero, List.set_cons_succ]
  refine wpAnyL_one (i := 5) (by kernel_rfl) rfl (by rfl) fun K hK => ?_
  go_simp
  refine (unhide HF4 _).mono ?_
  rintro e w5 ⟨rfl, hb5⟩
  have hS5 := hS.below hb5
  refine hK _ _ (fun _ => hS5) ?_
  clear hK K hb5 hS
  refine wpAnyL_one (i := 6) (by kernel_rfl) rfl (by rfl) fun K hK => ?_
  refine wp_copy_to (w := w5) _ _ 71 9 (by rfl) _ _ (by rfl) (by rfl) 3 (by rfl) _ _ (hS5.copy' 16 4 1008 E4 4 (unhide HE4).2 (by decide) (by decide) L4 (by rw [unhide HL3, (unhide HE4).1, unhide HL4, Pg.enc, Pg.bytes, unhide HSV, (unhide HEQ).2.2.2.1]; exact lay4 _ _ _ _ _ p.fr_len)) (some 23) (by rfl) ?_
  refine hK _ _ (fun h => absurd rfl h) ?_
  clear hK K
  simp only [Act.put, List.setIfInBounds_toArray, List.set_cons_zero, List.set_cons_succ]
  have HJ := hide (hS5.row L4 (unhide HLn4))
  clear hS5 HI
  generalize w5.setRow G (img L4) = V4 at *
  have HI := hide (unhide HJ)
  clear HJ
  refine wpAnyL_done (by kernel_rfl) ?_ _
  have hrg : V4.rangeAt G 0 (img L4).toList := by
    have h := World.rangeAt_of_block (unhide HI).g 0 1024
    have e : (img L4).extract 0 (0 + 1024) = img L4 := by
      rw [show 0 + 1024 = (img L4).size from by rw [img_size, unhide HLn4]]
      exact Array.extract_size
    rwa [e] at h
  have himg : (Tryd.prog.info? 126).map (·.size) = some (img L4).size := by rw [img_size, unhide HLn4]; exact imgInfo
  have HIM := hide himg
  have HRG := hide hrg
  clear hrg himg
  go_wp2_with (first
    | (refine wpList_load_mid (by rfl) 126 (.tmp 3) (by rfl) G 0 (by rfl) (img L4).toList _ (unhide HRG) Tryd.underlying126 (by rfl) (by simpa using unhide HIM) ?_; simp only [Act.put, List.setIfInBounds_toArray, List.set_cons_zero, List.set_cons_succ, Array.toArray_toList])
    | (refine wpList_store_row (by rfl) 126 (.tmp 2) (.tmp 24) (by rfl) R (img L4) (by rfl) (by rfl) 126 (img (zeros 1024)) (unhide HI).r (unhide HIM) (by rw [img_size, img_size, unhide HLn4]; rfl) (img_one L4) ?_; simp only [Act.put]))
  refine bodyPost_ret (results_cell_row rfl _ _ R 126 (img L4) (0, 0) _ rfl (heapRow_same (unhide HI).r _) Tryd.underlying126 rfl (unhide HIM)) rfl ?_
  rw [← unhide HL4]
  exact ⟨rfl, belowRow (unhide HI).bel (unhide HI).gr _⟩
end Go.Proofs.YtfdfbjijomepgaaDoor
