/- The journal: what a header lists. -/
import Derived.Test.YtfdfbjijomepgaaDoorJi
import Derived.Test.YtfdfbjijomepgaaDoorJf
import Derived.Test.YtfdfbjijomepgaaDoorJh
namespace Go.Proofs.YtfdfbjijomepgaaDoor
open Go.RowKit

theorem belowC {B : Nat} {a w : World} (h : Below B a w) {p : Addr} (hg : B ≤ p.block) (v : Value) : Below B a (w.setCell p v) :=
  ⟨h.os, h.tape, h.output, by simpa [World.setCell] using h.size, fun k hk => (Deep.blk_setCell_other w p v k (by omega)).trans (h.block k hk)⟩
theorem belowDN {B : Nat} {a w : World} (h : Below B a w) (n : Nat) : Below B a (w.drewN n) := ⟨h.os, h.tape, h.output, h.size, h.block⟩
/-- a row of pages that fills a block -/
def Rp (u : World) (G : Nat) (l : List Pg) : Prop := ∃ cs, u.heap[G]? = some (.cells cs 70 (0, 0)) ∧ cs.size = 4 * l.length ∧ ∀ (j : Nat) (hj : j < l.length) (k : Nat), k < 4 → cs[j * 4 + k]? = (l[j].cs)[k]?
section
variable {u u' : World} {G : Nat} {l : List Pg}
theorem Rp.lt (h : Rp u G l) : G < u.heap.size := by obtain ⟨cs, h, _⟩ := h; exact (Array.getElem?_eq_some_iff.1 h).1
theorem Rp.same (h : Rp u G l) (hb : u'.heap[G]? = u.heap[G]?) : Rp u' G l := by obtain ⟨cs, h1, h2⟩ := h; exact ⟨cs, hb.trans h1, h2⟩
theorem Rp.cell (h : Rp u G l) (j : Nat) (hj : j < l.length) (k : Nat) (hk : k < 4) : u.cell? ⟨G, j * 4 + k, none⟩ = (l[j].cs)[k]? := by
  obtain ⟨cs, h1, _, h3⟩ := h
  simp only [World.cell?, h1, ← h3 j hj k hk]
  rfl
theorem Rp.frozen (h : Rp u G l) (i : Nat) : u.frozen? ⟨G, i, none⟩ = false := by
  obtain ⟨cs, h1, _⟩ := h
  simp [World.frozen?, h1]
theorem Rp.pgs (h : Rp u G l) : Pgs u (some ⟨G, 0, none⟩) l := fun _ => ⟨G, 0, rfl, fun j hj k hk => by rw [Nat.zero_add]; exact h.cell j hj k hk⟩
theorem Rp.set (h : Rp u G l) (i : Nat) (hi : i < l.length) (k : Nat) (hk : k < 4) (p : Pg) (hp : ∀ j, j < 4 → j ≠ k → (p.cs)[j]? = (l[i].cs)[j]?) (v : Value) (hv : (p.cs)[k]? = some v) : Rp (u.setCell ⟨G, i * 4 + k, none⟩ v) G (l.set i p) := by
  obtain ⟨cs, h1, h2, h3⟩ := h
  refine ⟨_, D.heapCell_same h1 _ _, by rw [Array.size_setIfInBounds, h2, List.length_set], fun j hj q hq => ?_⟩
  rw [List.length_set] at hj
  rw [Array.getElem?_setIfInBounds, List.getElem_set]
  by_cases e : i = j
  · subst e
    rw [if_pos rfl]
    by_cases e2 : k = q
    · subst e2
      rw [if_pos rfl, if_pos (by omega), hv]
    · rw [if_neg (by omega), h3 i hi q hq, hp q hq (fun h => e2 h.symm)]
  · rw [if_neg e, if_neg (by omega), h3 j hj q hq]
end
/-- behind k entries: the pages, the reader's place and error -/
def listK (s : ByteArray) (n p0 : Nat) (e0 : Int) : Nat → List Pg × Nat × Int
  | 0 => (List.replicate n Pg.zero, p0, e0)
  | k + 1 =>
    let q := listK s n p0 e0 k
    let b := fixS s q.2.1 q.2.2 1
    let v := fixS s b.2.1 b.2.2 4
    (q.1.set k ⟨b.1 % 256, v.1, 0, ⟨#[]⟩⟩, v.2.1, v.2.2)
theorem listK_len (s : ByteArray) (n p0 : Nat) (e0 : Int) : ∀ k, (listK s n p0 e0 k).1.length = n
  | 0 => by simp [listK]
  | k + 1 => by simp only [listK, List.length_set]; exact listK_len s n p0 e0 k
/-- what is not yet listed is a zero page -/
theorem listK_rest (s : ByteArray) (n p0 : Nat) (e0 : Int) : ∀ k j, k ≤ j → j < n → (listK s n p0 e0 k).1[j]? = some Pg.zero
  | 0, j, _, hj => by simp [listK, hj]
  | k + 1, j, hk, hj => by
    simp only [listK]
    rw [List.getElem?_set_ne (by omega)]
    exact listK_rest s n p0 e0 k j (by omega) hj
theorem fixS_lt (s : ByteArray) (p : Nat) (e : Int) : (fixS s p e 4).1 < 4294967296 := by
  unfold fixS
  rw [if_neg (by omega)]
  have h1 := numB_lt (rawS s p e 4).1.data.toList
  have h2 := rawS_size s p e 4
  have h3 : (rawS s p e 4).1.data.toList.length ≤ 4 := by
    have : (rawS s p e 4).1.data.toList.length = (rawS s p e 4).1.size := rfl
    omega
  exact Nat.lt_of_lt_of_le h1 (Nat.pow_le_pow_right (by decide) h3)
/-- the pages that a header's body lists -/
def listed (s : ByteArray) (room : Nat) : List Pg × Nat × Int := let q := uintS s 0 0 room; listK s q.1 q.2.1 q.2.2 q.1
def listOk (s : ByteArray) (room : Nat) : Prop := endE s.size (listed s room).2.1 (listed s room).2.2 = 0 ∧ rises (listed s room).1
theorem listed_len (s : ByteArray) (room : Nat) : (listed s room).1.length ≤ room := by
  simp only [listed]
  rw [listK_len]
  exact uintS_le s 0 0 room
theorem pgSize : (Tryd.prog.info? 70).map (fun i => (i.size, i.bytes, i.zero.isSome)) = some (4, 32, true) := by kernel_rfl
theorem pgZero : ((Tryd.prog.info? 70).bind (·.zero)).map (·.cells) = some #[.int .u8 0, .int .u32 0, .int .u64 0, .string ⟨#[]⟩] := by kernel_rfl
theorem apUnd : Tryd.prog.underlying 25 = some (.slice 70) := by kernel_rfl
theorem mkApages (n : Nat) (hn : n ≤ 4096) (W : World) : (Instr.makeSlice 25 (.int .u64 (n : Int)) (.int .u64 (n : Int))).run Tryd.prog W = .ok (.slice (some ⟨W.heap.size, 0, none⟩) n n) (W.alloc (.cells (madeCells #[.int .u8 0, .int .u32 0, .int .u64 0, .string ⟨#[]⟩] (n * 4)) 70)) := by
  have h1 := pgSize
  have h2 := pgZero
  cases hq : Tryd.prog.info? 70 with
  | none => simp [hq] at h1
  | some i =>
    simp [hq] at h1 h2
    obtain ⟨a, b, c⟩ := h1
    cases hz : i.zero with
    | none => simp [hz] at c
    | some z =>
      simp [hz] at h2
      have hr := run_make (P := Tryd.prog) W 25 70 i z apUnd hq hz .u64 .u64 n n (by omega) (Int.le_refl _) (by rw [b]; omega) (by omega)
      rw [hr, a, h2, Int.toNat_natCast]
theorem Rp.made (W : World) (n : Nat) : Rp (W.alloc (.cells (madeCells #[.int .u8 0, .int .u32 0, .int .u64 0, .string ⟨#[]⟩] (n * 4)) 70)) W.heap.size (List.replicate n Pg.zero) := by
  refine ⟨_, heap_alloc_new W _, by rw [size_madeCells, List.length_replicate]; omega, fun j hj k hk => ?_⟩
  rw [List.length_replicate] at hj
  have hlt : j * 4 + k < n * 4 := by omega
  rw [List.getElem_replicate]
  have hm : (j * 4 + k) % 4 = k := by omega
  have he : (madeCells #[.int .u8 0, .int .u32 0, .int .u64 0, .string ⟨#[]⟩] (n * 4))[j * 4 + k]? = some ((#[Value.int .u8 0, .int .u32 0, .int .u64 0, .string ⟨#[]⟩] : Array Value)[(j * 4 + k) % 4]!) := by
    simp [madeCells, hlt]
  rw [he, hm]
  match k, hk with
  | 0, _ => rfl
  | 1, _ => rfl
  | 2, _ => rfl
  | 3, _ => rfl
open Classical in
set_option maxRecDepth 100000 in
set_option maxHeartbeats 2000000 in
theorem jListed (s : ByteArray) (hs : s.size ≤ 100000) (room : Nat) (hr : room ≤ 4096) (u : World) : Calls Tryd.prog 65 #[.string s, .int .i64 (room : Int)] u fun e u' => ∃ G, e = .returned (.tuple #[.slice (some ⟨G, 0, none⟩) (listed s room).1.length (listed s room).1.length, .bool (decide (listOk s room))]) ∧ u.heap.size ≤ G ∧ Rp u' G (listed s room).1 ∧ Below u.heap.size u u' := by
  obtain ⟨A, hA⟩ : ∃ A, A = u.heap.size := ⟨_, rfl⟩
  have HA := hide hA
  obtain ⟨q0, hq0⟩ : ∃ q, q = uintS s 0 0 room := ⟨_, rfl⟩
  obtain ⟨n, p0, e0⟩ := q0
  have hn : n ≤ 4096 := by
    have h := uintS_le s 0 0 room
    rw [← hq0] at h
    exact Nat.le_trans h hr
  have HLD : Hid (listed s room = listK s n p0 e0 n) := by show _ = _; simp only [listed, ← hq0]
  have HLO : Hid (listOk s room ↔ endE s.size (listK s n p0 e0 n).2.1 (listK s n p0 e0 n).2.2 = 0 ∧ rises (listK s n p0 e0 n).1) := by
    show _ ↔ _
    unfold listOk
    rw [unhide HLD]
  have hln : (listed s room).1.length = n := by rw [unhide HLD, listK_len]
  rw [hln, ← hA]
  obtain ⟨ok, hok⟩ : ∃ z, z = decide (listOk s room) := ⟨_, rfl⟩
  rw [← hok]
  have HOK := hide hok
  have HU0 := hide (fun w (h : Rd w A s 0 0) => rUint A s 0 0 room w h)
  rw [← hq0] at HU0
  have hw : IntKind.u64.wrap (room : Int) = (room : Int) := by rw [IntKind.wrap_u64]; omega
  have hmk := fun W => mkApages n hn W
  have hni : (n : Int) ≤ 4096 := by omega
  have HSS := hide hs
  clear hA hq0 hln hok
  go_enter Tryd.func65, Tryd.ntmps65
  go_wp2_with fail
  refine (rNew s u).mono ?_
  rintro e w1 ⟨rfl, hw1⟩
  have HR1 : Hid (Rd w1 A s 0 0) := by rw [hw1, unhide HA]; exact Rd.new s u _ (by have := unhide HSS; omega)
  have HB1 : Hid (Below A u w1) := by rw [hw1, unhide HA]; exact (Below.refl _ _).alloc (Nat.le_refl _) _
  rw [← unhide HA]
  clear hw1
  go_wp2_with fail
  refine (unhide HU0 w1 (unhide HR1)).mono ?_
  rintro e w2 ⟨rfl, hr2, hu2⟩
  have HR2 := hide hr2
  have HB2 : Hid (Below A u w2) := (unhide HB1).trans (hu2.below (by rw [unhide HA]; exact (unhide HB1).size) (Nat.le_refl _) (Nat.le_refl _))
  have HAl : Hid (A < w2.heap.size) := hr2.lt
  clear hr2 hu2 HU0 HR1 HB1
  simp only
  obtain ⟨G, hG⟩ : ∃ G, G = w2.heap.size := ⟨_, rfl⟩
  obtain ⟨w3, hw3⟩ : ∃ w3, w3 = w2.alloc (.cells (madeCells #[.int .u8 0, .int .u32 0, .int .u64 0, .string ⟨#[]⟩] (n * 4)) 70) := ⟨_, rfl⟩
  have HP3 : Hid (Rp w3 G (List.replicate n Pg.zero)) := by rw [hw3, hG]; exact Rp.made w2 n
  have HB3 : Hid (Below A u w3) := by rw [hw3]; exact (unhide HB2).alloc (Nat.le_of_lt (unhide HAl)) _
  have HR3 : Hid (Rd w3 A s p0 e0) := by rw [hw3]; exact (unhide HR2).alloc _
  have HGA : Hid (A < G) := by rw [hG]; exact unhide HAl
  have HW3 := hide hw3
  have HGG := hide hG
  clear hw3 hG
  go_wp2
  rw [← unhide HW3, ← unhide HGG]
  clear HW3 HGG HB2 HR2 HAl
  go_loopw [18] (fun i wr => ∃ k : Nat, k ≤ n ∧ i = .int .i64 k ∧ Hid (Rp wr G (listK s n p0 e0 k).1 ∧ Rd wr A s (listK s n p0 e0 k).2.1 (listK s n p0 e0 k).2.2 ∧ Below A u wr)) (fun i _ => n - (intOf i).toNat)
  case atStart => exact ⟨0, Nat.zero_le _, rfl, unhide HP3, unhide HR3, unhide HB3⟩
  case round =>
    clear HP3 HR3 HB3
    obtain ⟨k, hk, rfl, HI⟩ := hrel
    by_cases hlt : k < n
    · have hki : (k : Int) < (n : Int) := by omega
      have hix := ixPages G 0 n n k hlt
      rw [Nat.zero_add] at hix
      obtain ⟨hp, hrd, hbl⟩ := unhide HI
      have hrest := listK_rest s n p0 e0 k k (Nat.le_refl _) hlt
      have hlen := listK_len s n p0 e0 k
      have hnx : listK s n p0 e0 (k + 1) = ((listK s n p0 e0 k).1.set k ⟨(fixS s (listK s n p0 e0 k).2.1 (listK s n p0 e0 k).2.2 1).1 % 256, (fixS s (fixS s (listK s n p0 e0 k).2.1 (listK s n p0 e0 k).2.2 1).2.1 (fixS s (listK s n p0 e0 k).2.1 (listK s n p0 e0 k).2.2 1).2.2 4).1, 0, ⟨#[]⟩⟩, (fixS s (fixS s (listK s n p0 e0 k).2.1 (listK s n p0 e0 k).2.2 1).2.1 (fixS s (listK s n p0 e0 k).2.1 (listK s n p0 e0 k).2.2 1).2.2 4).2.1, (fixS s (fixS s (listK s n p0 e0 k).2.1 (listK s n p0 e0 k).2.2 1).2.1 (fixS s (listK s n p0 e0 k).2.1 (listK s n p0 e0 k).2.2 1).2.2 4).2.2) := rfl
      generalize hQ1 : listK s n p0 e0 (k + 1) = Q1 at hnx
      have HQ1 := hide hQ1
      clear hQ1
      generalize listK s n p0 e0 k = Q at *
      obtain ⟨L, P, E⟩ := Q
      simp only at hp hrd hrest hlen hnx
      have HB := hide (rByte A s P E wr hrd)
      have hv4 := fun p e => fixS_lt s p e
      generalize fixS s P E 1 = b at *
      obtain ⟨bv, bp, be⟩ := b
      simp only at HB hnx
      have HFx := hide (fun w (h : Rd w A s bp be) => rFixed A s bp be 4 w h)
      have hvlt := hv4 bp be
      generalize fixS s bp be 4 = v at *
      obtain ⟨vv, vp, ve⟩ := v
      simp only at HFx hnx hvlt
      have hwv : IntKind.u32.wrap (vv : Int) = (vv : Int) := by rw [IntKind.wrap_u32]; omega
      have hkL : k < L.length := by omega
      have hz : L[k] = Pg.zero := by
        rw [List.getElem?_eq_getElem hkL] at hrest
        exact Option.some.inj hrest
      have HPP := hide hp
      have HLL : Hid (k < L.length ∧ ∀ h : k < L.length, L[k] = Pg.zero) := ⟨hkL, fun _ => hz⟩
      have HBL := hide hbl
      have HNX := hide hnx
      have hbv : bv % 256 < 256 := Nat.mod_lt _ (by decide)
      generalize bv % 256 = bb at *
      clear hp hrd hbl hrest hlen hnx hv4 hkL hz HI
      go_wp2_with fail
      refine (unhide HB).mono ?_
      rintro e w4 ⟨rfl, hr4, hu4⟩
      have HGA' := unhide HGA
      have HR4 := hide hr4
      have HP4 : Hid (Rp w4 G L) := (unhide HPP).same (hu4.block G (unhide HPP).lt (by omega) (by omega))
      have HB4 : Hid (Below A u w4) := (unhide HBL).trans (hu4.below (by have := (unhide HBL).size; rw [unhide HA]; exact this) (Nat.le_refl _) (Nat.le_refl _))
      have z0 : w4.cell? ⟨G, k * 4, none⟩ = some (.int .u8 0) := by
        have := (unhide HP4).cell k (unhide HLL).1 0 (by decide)
        rw [(unhide HLL).2 (unhide HLL).1] at this
        exact this
      have f0 := (unhide HP4).frozen (k * 4)
      have HP5 : Hid (Rp (w4.setCell ⟨G, k * 4, none⟩ (.int .u8 (bb : Int))) G (L.set k ⟨bb, 0, 0, ⟨#[]⟩⟩)) := (unhide HP4).set k (unhide HLL).1 0 (by decide) ⟨bb, 0, 0, ⟨#[]⟩⟩ (fun j hj hne => by
        rw [(unhide HLL).2 (unhide HLL).1]
        match j, hj, hne with
        | 1, _, _ => rfl
        | 2, _, _ => rfl
        | 3, _, _ => rfl) _ rfl
      have HR5 : Hid (Rd (w4.setCell ⟨G, k * 4, none⟩ (.int .u8 (bb : Int))) A s bp be) := hr4.same (by simp [World.setCell]) (Deep.blk_setCell_other w4 ⟨G, k * 4, none⟩ _ A (by show A ≠ G; omega))
      have HB5 : Hid (Below A u (w4.setCell ⟨G, k * 4, none⟩ (.int .u8 (bb : Int)))) := belowC (unhide HB4) (p := ⟨G, k * 4, none⟩) (by show A ≤ G; omega) _
      clear hr4 hu4 HB HPP HBL HGA'
      go_wp2_with fail
      refine (unhide HFx _ (unhide HR5)).mono ?_
      rintro e w6 ⟨rfl, hr6, hu6⟩
      have HGA' := unhide HGA
      have HP6 : Hid (Rp w6 G (L.set k ⟨bb, 0, 0, ⟨#[]⟩⟩)) := (unhide HP5).same (hu6.block G (unhide HP5).lt (by omega) (by omega))
      have HB6 : Hid (Below A u w6) := (unhide HB5).trans (hu6.below (by have := (unhide HB5).size; rw [unhide HA]; exact this) (Nat.le_refl _) (Nat.le_refl _))
      have hk2 : k < (L.set k ⟨bb, 0, 0, ⟨#[]⟩⟩).length := by rw [List.length_set]; exact (unhide HLL).1
      have z1 : w6.cell? ⟨G, k * 4 + 1, none⟩ = some (.int .u32 0) := by
        have := (unhide HP6).cell k hk2 1 (by decide)
        rw [List.getElem_set_self] at this
        exact this
      have f1 := (unhide HP6).frozen (k * 4 + 1)
      have HX : Hid (Rp (w6.setCell ⟨G, k * 4 + 1, none⟩ (.int .u32 (vv : Int))) G (L.set k ⟨bb, vv, 0, ⟨#[]⟩⟩) ∧ Rd (w6.setCell ⟨G, k * 4 + 1, none⟩ (.int .u32 (vv : Int))) A s vp ve ∧ Below A u (w6.setCell ⟨G, k * 4 + 1, none⟩ (.int .u32 (vv : Int)))) := by
        refine ⟨?_, hr6.same (by simp [World.setCell]) (Deep.blk_setCell_other w6 ⟨G, k * 4 + 1, none⟩ _ A (by show A ≠ G; omega)), belowC (unhide HB6) (p := ⟨G, k * 4 + 1, none⟩) (by show A ≤ G; omega) _⟩
        have := (unhide HP6).set k hk2 1 (by decide) ⟨bb, vv, 0, ⟨#[]⟩⟩ (fun j hj hne => by
          rw [List.getElem_set_self]
          match j, hj, hne with
          | 0, _, _ => rfl
          | 2, _, _ => rfl
          | 3, _, _ => rfl) (.int .u32 (vv : Int)) rfl
        rwa [List.set_set] at this
      clear hr6 hu6 hk2 HGA' z0 f0
      go_wp2
      go_roundw
      case rel => exact ⟨k + 1, by omega, by go_num, by rw [unhide HQ1, unhide HNX]; exact unhide HX⟩
      case measure => simp [intOf]; omega
    · have hkk : k = n := by omega
      subst hkk
      have hki : ¬ (k : Int) < (k : Int) := by omega
      obtain ⟨hp, hrd, hbl⟩ := unhide HI
      have HEN := hide (rEnd A s (listK s k p0 e0 k).2.1 (listK s k p0 e0 k).2.2 wr hrd)
      have hlen := listK_len s k p0 e0 k
      have HRS := hide (fun (w : World) (hw : Rp w G (listK s k p0 e0 k).1) => jRising (listK s k p0 e0 k).1 (some ⟨G, 0, none⟩) k w hw.pgs (by omega))
      rw [hlen] at HRS
      have HP7 := hide hp
      have HB7 := hide hbl
      obtain ⟨ee, hee⟩ : ∃ z, z = endE s.size (listK s k p0 e0 k).2.1 (listK s k p0 e0 k).2.2 := ⟨_, rfl⟩
      rw [← hee] at HEN
      have HEE := hide hee
      clear hp hrd hbl hlen HI hee
      go_wp2_with fail
      refine (unhide HEN).mono ?_
      rintro e w8 ⟨rfl, c8, rfl⟩
      by_cases he : ee = 0
      · subst he
        have HOK2 : Hid (ok = decide (rises (listK s k p0 e0 k).1)) := by
          show _ = _
          rw [unhide HOK]
          exact decide_eq_decide.2 ((unhide HLO).trans ⟨fun h => h.2, fun h => ⟨(unhide HEE).symm, h⟩⟩)
        have HRS2 := hide (unhide HRS (wr.drewN c8) ((unhide HP7).same rfl))
        rw [← unhide HOK2] at HRS2
        clear HRS HEN
        go_wp2_with (go_at_call 52; refine (unhide HRS2).mono ?_; rintro e w9 ⟨rfl, c9, rfl⟩)
        go_ret2
        exact ⟨G, rfl, Nat.le_of_lt (unhide HGA), by rw [unhide HLD]; exact (unhide HP7).same rfl, belowDN (unhide HB7) _⟩
      · have HOK2 : Hid (ok = false) := by
          show _ = _
          rw [unhide HOK]
          exact decide_eq_false fun h => he (by rw [unhide HEE]; exact ((unhide HLO).1 h).1)
        clear HRS HEN
        go_wp2
        go_ret2
        rw [unhide HOK2]
        exact ⟨G, rfl, Nat.le_of_lt (unhide HGA), by rw [unhide HLD]; exact (unhide HP7).same rfl, belowDN (unhide HB7) _⟩
end Go.Proofs.YtfdfbjijomepgaaDoor
