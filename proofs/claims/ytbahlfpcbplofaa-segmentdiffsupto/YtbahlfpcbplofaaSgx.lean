/- Segments: the law's over, spoil, again. -/
import Derived.Test.YtbahlfpcbplofaaSgw
namespace Go.Proofs.Ytbahlfpcbplofaa.S
open Go.RowKit Go.Lib
/-- all stays but the list's own row, and what is new -/
structure Gr (w w' : World) (ao : Option Addr) : Prop where
  os : w'.os = w.os
  tape : w'.tape = w.tape
  output : w'.output = w.output
  size : w.heap.size ≤ w'.heap.size
  block : ∀ k, k < w.heap.size → (∀ ad : Addr, ao = some ad → ad.block ≠ k) → w'.heap[k]? = w.heap[k]?
theorem Gr.refl (w : World) (ao : Option Addr) : Gr w w ao := ⟨rfl, rfl, rfl, Nat.le_refl _, fun _ _ _ => rfl⟩
theorem Gr.trans {w w1 w2 : World} {ao : Option Addr} (h : Gr w w1 ao) (k : Gr w1 w2 ao) : Gr w w2 ao := ⟨k.os.trans h.os, k.tape.trans h.tape, k.output.trans h.output, Nat.le_trans h.size k.size, fun j hj hn => (k.block j (Nat.lt_of_lt_of_le hj h.size) hn).trans (h.block j hj hn)⟩
theorem Gr.of {w w' : World} {ao : Option Addr} (h : Below w.heap.size w w') : Gr w w' ao := ⟨h.os, h.tape, h.output, h.size, fun k hk _ => h.block k hk⟩
theorem Gr.below {w w' : World} {ao : Option Addr} {B : Nat} (h : Gr w w' ao) (hB : ∀ ad : Addr, ao = some ad → B ≤ ad.block) (hs : B ≤ w.heap.size) : Below B w w' := ⟨h.os, h.tape, h.output, h.size, fun k hk => h.block k (by omega) fun ad e hh => by have := hB ad e; omega⟩
theorem Gr.cell {w : World} {g : Nat} {k : Nat} {v : Value} : Gr w (w.setCell ⟨g, k, none⟩ v) (some ⟨g, 0, none⟩) := ⟨rfl, rfl, rfl, by simp [World.setCell], fun j _ hn => Below.heap_setCell w ⟨g, k, none⟩ v j (fun e => hn _ rfl e.symm)⟩
theorem flat_set2 : ∀ (l : List En) (k : Nat) (x : En), ((RE.flat l).set (k * 2) (.string x.1)).set (k * 2 + 1) (.string x.2) = RE.flat (l.set k x)
  | [], _, _ => by simp [Rec.flat]
  | e :: l, 0, x => by simp [Rec.flat, RE, ecs]
  | e :: l, k + 1, x => by
    have ih := flat_set2 l k x
    have e1 : ∀ (x : En) (m : List En), RE.flat (x :: m) = .string x.1 :: .string x.2 :: RE.flat m := fun x m => rfl
    rw [e1, show (k + 1) * 2 = k * 2 + 1 + 1 by omega, List.set_cons_succ, List.set_cons_succ, List.set_cons_succ, List.set_cons_succ, ih, List.set_cons_succ, e1]
theorem Own.set2 {w : World} {B : Nat} {l : List En} {g c : Nat} (h : RE.Own w B l (some ⟨g, 0, none⟩) c) (k : Nat) (x : En) : RE.Own ((w.setCell ⟨g, k * 2, none⟩ (.string x.1)).setCell ⟨g, k * 2 + 1, none⟩ (.string x.2)) B (l.set k x) (some ⟨g, 0, none⟩) c := by
  show ((w.setCell ⟨g, k * 2, none⟩ (.string x.1)).setCell ⟨g, k * 2 + 1, none⟩ (.string x.2)).ownsRow B 43 2 _ (l.set k x).length _
  rw [List.length_set]
  have s2 := (World.ownsRow.stored h (k * 2) (.string x.1)).1
  have s3 := (s2.stored (k * 2 + 1) (.string x.2)).1
  rw [flat_set2] at s3
  exact s3
theorem Own.there {w : World} {B : Nat} {l : List En} {g c : Nat} (h : RE.Own w B l (some ⟨g, 0, none⟩) c) {k : Nat} (hk : k < l.length) : w.there g (k * 2) 2 := fun j hj => by
  have hl : (RE.flat l).length = l.length * 2 := RE.flat_len l
  refine ⟨?_, World.ownsRow.frozenAt h _⟩
  rw [World.ownsRow.cellAt h (k * 2 + j) (by show k * 2 + j < l.length * 2; omega), List.getElem?_eq_getElem (by omega)]
  rfl
theorem wpList_store_enmid {ops : Array Oper} {rest : List Oper} {o : Oper} {a : Act} {w : World} {Q : Exit → Act → World → Prop} (hgd : o.guard = none) (x y : Operand) (ho : o.op = .store 43 x y) (g k : Nat) (p q : ByteArray) (hx : a.eval x = .pointer (some ⟨g, k, none⟩)) (hy : a.eval y = .agg #[.string p, .string q]) (ht : w.there g k 2)
    (h : wpList Try.prog ops Q rest (a.put o.dst undef) ((w.setCell ⟨g, k, none⟩ (.string p)).setCell ⟨g, k + 1, none⟩ (.string q))) : wpList Try.prog ops Q (o :: rest) a w := by
  have h1 : (storeVar 43 ⟨g, k, none⟩ (.agg #[.string p, .string q])).run Try.prog w = .ok () (w.setCells g k [.string p, .string q]) := run_storeVar_mid (P := Try.prog) w g k 43 #[.string p, .string q] ht enInfo (by simp [Value.oneCell'])
  refine wpList_plain hgd fun K hK => ?_
  unfold Oper.wp execOp
  simp only [ho, hx, hy, Instr.storeAt, Instr.sureAddr, Sem.run_bind, Sem.run_pure, Result.andThen_ok, h1]
  exact hK _ _ h
theorem u8wrap (x : Int) : ∃ b : UInt8, IntKind.u8.wrap x = (b.toNat : Int) := by
  refine ⟨UInt8.ofNat (x % 256).toNat, ?_⟩
  rw [IntKind.wrap_u8]
  simp
  omega
theorem row4 (W : World) (b1 b2 b3 : UInt8) : (convert 52 9 (.slice (some ⟨W.heap.size, 0, none⟩) 4 4)).run Try.prog (W.alloc (.cells #[.int .u8 111, .int .u8 (b1.toNat : Int), .int .u8 (b2.toNat : Int), .int .u8 (b3.toNat : Int)] 5)) = .ok (.string ⟨#[111, b1, b2, b3]⟩) (W.alloc (.cells #[.int .u8 111, .int .u8 (b1.toNat : Int), .int .u8 (b2.toNat : Int), .int .u8 (b3.toNat : Int)] 5)) := by
  have h := run_convert_bytes_back (P := Try.prog) (W.alloc (.cells #[.int .u8 111, .int .u8 (b1.toNat : Int), .int .u8 (b2.toNat : Int), .int .u8 (b3.toNat : Int)] 5)) 52 9 5 ⟨W.heap.size, 0, none⟩ 4 [111, b1, b2, b3] Try.underlying52 Try.underlying5 Try.underlying9 fun j hj => by
    have h1 := heap_alloc_new W (.cells #[.int .u8 111, .int .u8 (b1.toNat : Int), .int .u8 (b2.toNat : Int), .int .u8 (b3.toNat : Int)] 5)
    rw [Addr.add_mid, Nat.zero_add]
    match j, hj with
    | 0, _ => exact arr_cell h1 rfl
    | 1, _ => exact arr_cell h1 rfl
    | 2, _ => exact arr_cell h1 rfl
    | 3, _ => exact arr_cell h1 rfl
  exact h
set_option maxRecDepth 100000 in
set_option maxHeartbeats 4000000 in
theorem lOver (l m : List En) (ao : Option Addr) (n cc B : Nat) (w : World) (h : RE.Own w B (l ++ m) ao cc) (hn : n = l.length) (hm : n ≤ 4398046511000) : Calls Try.prog 31 #[.slice ao n cc] w fun e w' => e = .returned (.tuple #[]) ∧ (∃ l' : List En, l'.length = l.length ∧ RE.Own w' B (l' ++ m) ao cc) ∧ Gr w w' ao := by
  have HO := hide h
  have HN := hide hn
  have hni : (n : Int) ≤ 4398046511000 := by omega
  clear h hn hm
  go_enter Try.func31, Try.ntmps31
  go_wp2
  go_loopw [2] (fun si wr => ∃ (i : Nat) (l' : List En), i ≤ n ∧ si = .int .i64 i ∧ Hid (l'.length = l.length) ∧ Hid (RE.Own wr B (l' ++ m) ao cc) ∧ Hid (Gr w wr ao)) (fun si _ => n - (intOf si).toNat)
  case atStart => exact ⟨0, l, Nat.zero_le _, rfl, rfl, unhide HO, Gr.refl _ _⟩
  case round =>
    clear HO
    obtain ⟨i, l', hin, rfl, HL, HO, HG⟩ := hrel
    by_cases hlt : i < n
    · have hii : (i : Int) < (n : Int) := by omega
      have hil : i < l'.length := by rw [unhide HL, ← unhide HN]; exact hlt
      obtain ⟨g, hg⟩ : ∃ g, ao = some ⟨g, 0, none⟩ := by
        rcases (unhide HO).2 with ⟨_, hz⟩ | ⟨g, cap, cur, hv, _⟩
        · rw [List.length_append] at hz; omega
        · simp only [Value.slice.injEq] at hv; exact ⟨g, hv.1⟩
      subst hg
      have hix : ∀ W : World, (Instr.indexAt 27 (.slice (some ⟨g, 0, none⟩) n cc) (.int .i64 (i : Int))).run Try.prog W = .ok (.pointer (some ⟨g, i * 2, none⟩)) W := fun W => by
        have := ixE g 0 n cc i hlt W
        rwa [Nat.zero_add] at this
      obtain ⟨b1, hb1⟩ := u8wrap ((i : Int) / 65536)
      obtain ⟨b2, hb2⟩ := u8wrap (((i : Int) / 256) % 256)
      obtain ⟨b3, hb3⟩ := u8wrap ((i : Int) % 256)
      have hr4 := row4 wr b1 b2 b3
      obtain ⟨z, hz⟩ : ∃ z : Int, z = 97 + (i : Int) % 26 := ⟨_, rfl⟩
      have hzw : IntKind.i32.wrap (97 + (i : Int) % 26) = z := by rw [IntKind.wrap_i32, hz]; omega
      have hzw2 : IntKind.i64.wrap (97 + (i : Int) % 26) = z := by rw [IntKind.wrap_i64, hz]; omega
      have hz0 : 0 ≤ z ∧ z < 1000 := by omega
      have hzw3 : IntKind.i32.wrap z = z := by rw [IntKind.wrap_i32]; omega
      obtain ⟨q, hq⟩ : ∃ q, q = Utf8.encode z := ⟨_, rfl⟩
      have hcv : ∀ W : World, (convert 21 9 (.int .i32 z)).run Try.prog W = .ok (.string q) W := fun W => by rw [run_convert_int_string W 21 9 .i32 _ (by kernel_rfl) Try.underlying9, hq]
      obtain ⟨p, hp⟩ : ∃ p : ByteArray, p = ⟨#[111, b1, b2, b3]⟩ := ⟨_, rfl⟩
      rw [← hp] at hr4
      obtain ⟨W0, hW0⟩ : ∃ W0, W0 = wr.alloc (.cells #[.int .u8 111, .int .u8 (b1.toNat : Int), .int .u8 (b2.toNat : Int), .int .u8 (b3.toNat : Int)] 5) := ⟨_, rfl⟩
      have HB0 : Hid (Below wr.heap.size wr W0) := by rw [hW0]; exact (Below.refl _ _).alloc (Nat.le_refl _) _
      have HO0 := hide ((unhide HO).below (unhide HB0))
      have HT0 : Hid (W0.there g (i * 2) 2) := Own.there (unhide HO0) (by rw [List.length_append]; omega)
      have HS0 : Hid (RE.Own ((W0.setCell ⟨g, i * 2, none⟩ (.string p)).setCell ⟨g, i * 2 + 1, none⟩ (.string q)) B (l'.set i (p, q) ++ m) (some ⟨g, 0, none⟩) cc) := by
        have h1 := Own.set2 (unhide HO0) i (p, q)
        rw [List.set_append_left _ _ hil] at h1
        exact h1
      have HG0 : Hid (Gr w ((W0.setCell ⟨g, i * 2, none⟩ (.string p)).setCell ⟨g, i * 2 + 1, none⟩ (.string q)) (some ⟨g, 0, none⟩)) := (unhide HG).trans ((Gr.of (unhide HB0)).trans (Gr.cell.trans Gr.cell))
      have HW0 := hide hW0
      clear hq hp hz hz0 hW0
      generalize i * 2 = oo at *
      go_wp2_with (first
        | ((with_reducible refine wpList_store_enmid (by rfl) (.tmp 29) (.tmp 28) (by rfl) g oo p q (by with_unfolding_all rfl) (by with_unfolding_all rfl) (by rw [← unhide HW0]; exact unhide HT0) ?_); simp only [Act.put])
        | fail)
      go_wp2
      go_roundw
      case rel => exact ⟨i + 1, l'.set i (p, q), by omega, by go_num, by rw [List.length_set]; exact unhide HL, by rw [← unhide HW0]; exact unhide HS0, by rw [← unhide HW0]; exact unhide HG0⟩
      case measure => simp [intOf]; omega
    · obtain rfl : i = n := by omega
      have hki : ¬ (i : Int) < (i : Int) := by omega
      go_wp2
      go_returns
      exact ⟨rfl, ⟨l', unhide HL, unhide HO⟩, unhide HG⟩
abbrev beW : ByteArray := ⟨#[98, 101, 104, 105, 110, 100]⟩
set_option maxRecDepth 100000 in
set_option maxHeartbeats 4000000 in
theorem lSpoil (l : List En) (ao : Option Addr) (n cc B : Nat) (w : World) (h : RE.Own w B l ao cc) (hn : n = l.length) (hm : n ≤ 4398046511000) (hB : B ≤ w.heap.size) : Calls Try.prog 75 #[.slice ao n cc] w fun e w' => e = .returned (.tuple #[]) ∧ Gr w w' ao := by
  have HOV := hide (lOver l [] ao n cc B w (by rw [List.append_nil]; exact h) hn hm)
  have HN := hide hn
  have HM := hide hm
  have HB := hide hB
  clear h hn hm hB
  go_enter Try.func75, Try.ntmps75
  go_wp2_with (first
    | (go_at_call 31; refine (unhide HOV).mono ?_; rintro e W1 ⟨rfl, ⟨l1, hl1, ho⟩, hg⟩; rw [List.append_nil] at ho; have HO1 := hide ho; have HG1 := hide hg; have HL1 : Hid (n = l1.length) := (unhide HN).trans hl1.symm; clear ho hg hl1)
    | fail)
  go_loopw [0, 2] (fun s0 s2 wr => ∃ (k n' c' : Nat) (xo : Option Addr) (li : List En), k ≤ 70 ∧ s2 = .int .i64 k ∧ s0 = .slice xo n' c' ∧ Hid (n' = li.length ∧ li.length ≤ n + k) ∧ Hid (RE.Own wr B li xo c') ∧ Hid (Gr w wr ao) ∧ Hid (∀ ad' : Addr, xo = some ad' → (∃ ad : Addr, ao = some ad ∧ ad.block = ad'.block) ∨ w.heap.size ≤ ad'.block)) (fun _ s2 _ => 70 - (intOf s2).toNat)
  case atStart => exact ⟨0, n, cc, ao, l1, by decide, rfl, rfl, ⟨unhide HL1, by rw [← unhide HL1]; exact Nat.le_refl _⟩, unhide HO1, unhide HG1, fun ad e => .inl ⟨ad, e, rfl⟩⟩
  case round =>
    clear HO1 HG1
    obtain ⟨k, n2, c2, x2, li, hk, rfl, rfl, HL, HO, HG, HX⟩ := hrel
    by_cases hlt : k < 70
    · have hki : (k : Int) < 70 := by omega
      have HO3 : Hid (RE.Own (wr.alloc (.cells #[.string beW, .string ⟨#[]⟩] 43)) B li x2 c2) := (unhide HO).below ((Below.refl _ _).alloc (Nat.le_refl _) _)
      have HA3 : Hid (RE.At (wr.alloc (.cells #[.string beW, .string ⟨#[]⟩] 43)) [(beW, ⟨#[]⟩)] (some ⟨wr.heap.size, 0, none⟩) 1) := RE.one wr (beW, ⟨#[]⟩) _
      have HL3 : Hid ((li.length + [((beW, ⟨#[]⟩) : En)].length) * 32 ≤ 140737488355328) := by
        have h1 := (unhide HL).2
        have h2 := unhide HM
        rw [List.length_singleton]
        show (li.length + 1) * 32 ≤ 140737488355328
        omega
      have HS3 : Hid (B ≤ (wr.alloc (.cells #[.string beW, .string ⟨#[]⟩] 43)).heap.size) := Nat.le_trans (Nat.le_trans (unhide HB) (unhide HG).size) (szNew wr _)
      go_wp2_with (first
        | (at_builtin; (with_reducible refine wpList_putE (by rfl) (.tmp 9) (.tmp 11) (by rfl) (some 12) (by rfl) B li [(beW, ⟨#[]⟩)] n2 1 (unhide HL).1 rfl x2 (some ⟨wr.heap.size, 0, none⟩) c2 1 (by with_unfolding_all rfl) (by with_unfolding_all rfl) (unhide HO3) (unhide HA3) (unhide HL3) (unhide HS3) ?_); intro x4 n4 c4 W4 HP4; simp only [Act.put, List.setIfInBounds_toArray, List.set_cons_zero, List.set_cons_succ])
        | fail)
      go_wp2
      go_roundw
      case rel =>
        refine ⟨k + 1, n4, c4, x4, li ++ [((beW, ⟨#[]⟩) : En)], by omega, by go_num, rfl, ⟨(unhide HP4).len, ?_⟩, (unhide HP4).own, ?_, ?_⟩
        · have h1 := (unhide HL).2
          rw [List.length_append, List.length_singleton]; omega
        · obtain ⟨g1, g2, g3, g4, g5⟩ := (unhide HP4).grown
          have hs := szNew wr (.cells #[.string beW, .string ⟨#[]⟩] 43)
          refine ⟨g1.trans (unhide HG).os, g2.trans (unhide HG).tape, g3.trans (unhide HG).output, Nat.le_trans (unhide HG).size (Nat.le_trans hs g4), fun j hj hne => ?_⟩
          have hjw : j < wr.heap.size := Nat.lt_of_lt_of_le hj (unhide HG).size
          refine (g5 j (Nat.lt_of_lt_of_le hjw hs) fun e => ?_).trans ((((Below.refl wr.heap.size wr).alloc (Nat.le_refl _) _).block j hjw).trans ((unhide HG).block j hj hne))
          cases x2 with
          | none => cases e
          | some ad' =>
            have e : j = ad'.block := Option.some.inj e
            rcases unhide HX ad' rfl with ⟨ad, h1, h2⟩ | h
            · exact hne ad h1 (h2.trans e.symm)
            · omega
        · intro ad' e
          obtain ⟨g, rfl⟩ := own_addr (unhide HP4).own ad' e
          rcases (unhide HP4).new g 0 e with ⟨o', h⟩ | h
          · exact unhide HX ⟨g, o', none⟩ h
          · exact .inr (Nat.le_trans (unhide HG).size (Nat.le_trans (szNew wr _) h))
      case measure => simp [intOf]; omega
    · obtain rfl : k = 70 := by omega
      go_wp2
      go_returns
      exact ⟨rfl, unhide HG⟩
/- lists stay where other rows change -/
def apart (a b : Option Addr) : Prop := ∀ x y : Addr, a = some x → b = some y → x.block ≠ y.block
theorem Own.gr {w w' : World} {B : Nat} {l : List En} {ao bo : Option Addr} {c : Nat} (h : RE.Own w B l ao c) (hg : Gr w w' bo) (hp : apart ao bo) : RE.Own w' B l ao c := own_keep h fun g hb => by
  refine hg.block g (h.lt g hb).2 fun ad e hh => ?_
  cases ao with
  | none => cases hb
  | some x => exact hp x ad rfl e ((Option.some.inj hb).trans hh.symm)
theorem El.gr {w w' : World} {l : List En} {ao bo : Option Addr} {n c : Nat} (h : El w l ao n c) (hg : Gr w w' bo) (hp : apart ao bo) : El w' l ao n c := by
  refine ⟨⟨fun h0 => ?_, h.cap, h.nil, h.many⟩, h.hn⟩
  obtain ⟨g, o, e, hr⟩ := h.lies h0
  refine ⟨g, o, e, fun j v hv => ?_⟩
  have h1 := hr j v hv
  have hlt := World.block_lt_of_cell? w _ h1
  have h2 : w'.heap[g]? = w.heap[g]? := hg.block g hlt fun ad e2 hh => hp _ _ e e2 hh.symm
  rw [← h1]
  simp only [World.cell?, h2]
/-- what again has in its hands -/
structure Ag (w : World) (B B0 : Nat) (li d : List En) (g n cc : Nat) (xo : Option Addr) (xk xc : Nat) (yo : Option Addr) (yk yc : Nat) (zo : Option Addr) (zk zc : Nat) : Prop where
  le : Le w B li g n cc
  one : RE.Own w B0 d xo xc
  hx : xk = d.length
  two : El w d yo yk yc
  want : El w d zo zk zc
  xg : apart xo (some ⟨g, 0, none⟩)
  yg : apart yo (some ⟨g, 0, none⟩)
  zg : apart zo (some ⟨g, 0, none⟩)
  yx : apart yo xo
  zx : apart zo xo
  sz : B0 ≤ w.heap.size
  gB : B0 ≤ g
theorem Ag.below {w w' : World} {B B0 : Nat} {li d : List En} {g n cc : Nat} {xo : Option Addr} {xk xc : Nat} {yo : Option Addr} {yk yc : Nat} {zo : Option Addr} {zk zc : Nat} (h : Ag w B B0 li d g n cc xo xk xc yo yk yc zo zk zc) (hb : Below w.heap.size w w') : Ag w' B B0 li d g n cc xo xk xc yo yk yc zo zk zc :=
  ⟨h.le.below hb, h.one.below hb, h.hx, h.two.below hb, h.want.below hb, h.xg, h.yg, h.zg, h.yx, h.zx, Nat.le_trans h.sz hb.size, h.gB⟩
theorem Ag.e1 {w : World} {B B0 : Nat} {li d : List En} {g n cc : Nat} {xo : Option Addr} {xk xc : Nat} {yo : Option Addr} {yk yc : Nat} {zo : Option Addr} {zk zc : Nat} (h : Ag w B B0 li d g n cc xo xk xc yo yk yc zo zk zc) : El w d xo xk xc := ⟨h.one.at h.want.many, h.hx⟩
set_option maxRecDepth 100000 in
set_option maxHeartbeats 8000000 in
theorem lAgain {w : World} {B B0 : Nat} {li d : List En} {g n cc : Nat} {xo : Option Addr} {xk xc : Nat} {yo : Option Addr} {yk yc : Nat} {zo : Option Addr} {zk zc : Nat} (h : Ag w B B0 li d g n cc xo xk xc yo yk yc zo zk zc) : Calls Try.prog 34 #[.slice (some ⟨g, 0, none⟩) n cc, .slice xo xk xc, .slice yo yk yc, .slice zo zk zc] w fun e w' => e = .returned (.bool true) ∧ (∃ li', Le w' B li' g n cc) ∧ Below B0 w w' := by
  have HA0 := hide h
  have HB0 : Hid (Below B0 w w) := Below.refl _ _
  have HS1 : Hid (∀ G : World, El G d xo xk xc → El G d zo zk zc → Calls Try.prog 37 #[.slice xo xk xc, .slice zo zk zc] G fun e u' => e = .returned (.bool true) ∧ Below G.heap.size G u') := fun G h1 h2 => by
    have := qSame d d _ _ xk zk xc zc G h1 h2
    rwa [decide_eq_true rfl] at this
  have HS2 : Hid (∀ G : World, El G d yo yk yc → El G d zo zk zc → Calls Try.prog 37 #[.slice yo yk yc, .slice zo zk zc] G fun e u' => e = .returned (.bool true) ∧ Below G.heap.size G u') := fun G h1 h2 => by
    have := qSame d d _ _ yk zk yc zc G h1 h2
    rwa [decide_eq_true rfl] at this
  have HOV : Hid (∀ G : World, Ag G B B0 li d g n cc xo xk xc yo yk yc zo zk zc → Calls Try.prog 31 #[.slice (some ⟨g, 0, none⟩) n cc] G fun e w' => e = .returned (.tuple #[]) ∧ ∃ li', Ag w' B B0 li' d g n cc xo xk xc yo yk yc zo zk zc ∧ Below B0 G w') := fun G hG => by
    refine (lOver li marks _ n cc B G hG.le.own hG.le.hn (by rw [hG.le.hn]; have := hG.le.many; omega)).mono ?_
    rintro e w' ⟨he, ⟨l', hl', ho⟩, hgr⟩
    exact ⟨he, l', ⟨⟨ho, by rw [hl']; exact hG.le.hn, by rw [hl']; exact hG.le.many⟩, Own.gr hG.one hgr hG.xg, hG.hx, hG.two.gr hgr hG.yg, hG.want.gr hgr hG.zg, hG.xg, hG.yg, hG.zg, hG.yx, hG.zx, Nat.le_trans hG.sz hgr.size, hG.gB⟩, hgr.below (fun ad e => by cases e; exact hG.gB) hG.sz⟩
  have HSP : Hid (∀ (G : World) (li' : List En), Ag G B B0 li' d g n cc xo xk xc yo yk yc zo zk zc → Calls Try.prog 75 #[.slice xo xk xc] G fun e w' => e = .returned (.tuple #[]) ∧ Gr G w' xo) := fun G li' hG => lSpoil d xo xk xc B0 G hG.one hG.hx (by rw [hG.hx]; have := hG.want.many; omega) hG.sz
  have HXB : Hid (∀ ad : Addr, xo = some ad → B0 ≤ ad.block ∧ ∀ (G : World) (li' : List En), Ag G B B0 li' d g n cc xo xk xc yo yk yc zo zk zc → ad.block < G.heap.size) := fun ad e => by
    subst e
    exact ⟨(World.ownsRow.lt h.one ad.block rfl).1, fun G li' hG => (World.ownsRow.lt hG.one ad.block rfl).2⟩
  clear h
  go_enter Try.func34, Try.ntmps34
  go_wp2_with (first
    | (go_at_call_of 37 (Value.slice xo xk xc); refine (unhide HS1 w (unhide HA0).e1 (unhide HA0).want).mono ?_; rintro e W1 ⟨rfl, hb⟩; have HA1 := hide ((unhide HA0).below hb); have HB1 : Hid (Below B0 w W1) := (unhide HB0).trans (hb.mono (unhide HA0).sz); clear hb HA0 HB0)
    | (go_at_call_of 37 (Value.slice yo yk yc); refine (unhide HS2 W1 (unhide HA1).two (unhide HA1).want).mono ?_; rintro e W2 ⟨rfl, hb⟩; have HA2 := hide ((unhide HA1).below hb); have HB2 : Hid (Below B0 w W2) := (unhide HB1).trans (hb.mono (unhide HA1).sz); clear hb HA1 HB1)
    | (go_at_call 31; refine (unhide HOV W2 (unhide HA2)).mono ?_; rintro e W3 ⟨rfl, li', ha, hb⟩; have HA3 := hide ha; have HB3 : Hid (Below B0 w W3) := (unhide HB2).trans hb; have HLN : Hid (n = li'.length) := ha.le.hn; have HLE := hide ha.le.el; have HRF : Hid (Below W3.heap.size W3 W3) := Below.refl _ _; clear hb ha HA2 HB2)
    | (at_builtin; (with_reducible refine wpList_putE (by rfl) (.tmp 22) (.tmp 23) (by rfl) (some 24) (by rfl) W3.heap.size [] li' 0 n rfl (unhide HLN) (some ⟨W3.heap.size, 0, none⟩) (some ⟨g, 0, none⟩) 0 cc (by with_unfolding_all rfl) (by with_unfolding_all rfl) (Own.empty W3 _ (Nat.le_refl _)) (atNew (unhide HLE) (unhide HRF) _) (unhide HLE).l0 (szNew W3 _) ?_); intro x4 n4 c4 W4 HP4; simp only [Act.put, List.setIfInBounds_toArray, List.set_cons_zero, List.set_cons_succ]; have HB4' : Hid (Below W3.heap.size W3 W4) := Below.step (unhide HRF) ((unhide HP4).below0); have hn4 : n = n4 := ((unhide HP4).len.trans (unhide HLN).symm).symm; subst hn4; have HN4 : Hid (El W4 li' x4 n c4) := ⟨(unhide HP4).own.at (unhide HLE).many, unhide HLN⟩; have HA4 := hide ((unhide HA3).below (unhide HB4')); have HB4 : Hid (Below B0 w W4) := (unhide HB3).trans ((unhide HB4').mono (unhide HA3).sz); have HNW : Hid (∀ ad : Addr, xo = some ad → ∀ y : Addr, x4 = some y → y.block ≠ ad.block) := (fun ad e y ey hh => by have h1 := (unhide HXB ad e).2 W3 li' (unhide HA3); subst ey; have h2 := (World.ownsRow.lt (unhide HP4).own y.block rfl).1; omega); clear HA3 HB3)
    | (go_at_call_of 37 (Value.slice xo xk xc); refine (unhide HS1 W4 (unhide HA4).e1 (unhide HA4).want).mono ?_; rintro e W5 ⟨rfl, hb⟩; have HA5 := hide ((unhide HA4).below hb); have HB5 : Hid (Below B0 w W5) := (unhide HB4).trans (hb.mono (unhide HA4).sz); have HN5 := hide ((unhide HN4).below hb); clear hb HA4 HB4 HN4)
    | (go_at_call_of 37 (Value.slice yo yk yc); refine (unhide HS2 W5 (unhide HA5).two (unhide HA5).want).mono ?_; rintro e W6 ⟨rfl, hb⟩; have HA6 := hide ((unhide HA5).below hb); have HB6 : Hid (Below B0 w W6) := (unhide HB5).trans (hb.mono (unhide HA5).sz); have HN6 := hide ((unhide HN5).below hb); clear hb HA5 HB5 HN5)
    | (go_at_call 75; refine (unhide HSP W6 li' (unhide HA6)).mono ?_; rintro e W7 ⟨rfl, hgr⟩; have HB7 : Hid (Below B0 w W7) := (unhide HB6).trans (hgr.below (fun ad e => (unhide HXB ad e).1) (unhide HA6).sz); have HY7 : Hid (El W7 d yo yk yc) := (unhide HA6).two.gr hgr (unhide HA6).yx; have HZ7 : Hid (El W7 d zo zk zc) := (unhide HA6).want.gr hgr (unhide HA6).zx; have HI7 : Hid (Le W7 B li' g n cc) := ⟨Own.gr (unhide HA6).le.own hgr (fun x y e1 e2 hh => (unhide HA6).xg y x e2 e1 hh.symm), (unhide HA6).le.hn, (unhide HA6).le.many⟩; have HN7 : Hid (El W7 li' x4 n c4) := (unhide HN6).gr hgr (fun x y e1 e2 => unhide HNW y e2 x e1); have HS7 : Hid (B0 ≤ W7.heap.size) := Nat.le_trans (unhide HA6).sz hgr.size; clear hgr HA6 HB6 HN6)
    | (go_at_call_of 37 (Value.slice yo yk yc); refine (unhide HS2 W7 (unhide HY7) (unhide HZ7)).mono ?_; rintro e W8 ⟨rfl, hb⟩; have HB8 : Hid (Below B0 w W8) := (unhide HB7).trans (hb.mono (unhide HS7)); have HI8 := hide ((unhide HI7).below hb); have HN8 := hide ((unhide HN7).below hb); have HS8 : Hid (B0 ≤ W8.heap.size) := Nat.le_trans (unhide HS7) hb.size; have HSI : Hid (Calls Try.prog 37 #[.slice (some ⟨g, 0, none⟩) n cc, .slice x4 n c4] W8 fun e u' => e = .returned (.bool true) ∧ Below W8.heap.size W8 u') := (by have h1 := qSame li' li' _ _ n n cc c4 W8 (unhide HI8).el (unhide HN8); rwa [decide_eq_true rfl] at h1); clear hb HI7 HN7 HY7 HZ7 HB7)
    | (go_at_call_of 37 (Value.slice x4 n c4); refine (unhide HSI).mono ?_; rintro e W9 ⟨rfl, hb⟩; have HB9 : Hid (Below B0 w W9) := (unhide HB8).trans (hb.mono (unhide HS8)); have HI9 := hide ((unhide HI8).below hb); clear hb)
    | fail)
  go_ret
  exact ⟨rfl, ⟨li', unhide HI9⟩, unhide HB9⟩
end Go.Proofs.Ytbahlfpcbplofaa.S
