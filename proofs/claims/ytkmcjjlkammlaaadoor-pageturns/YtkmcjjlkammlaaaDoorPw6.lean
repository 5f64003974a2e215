/- The walk of PageTurns. -/
import Derived.Test.YtkmcjjlkammlaaaDoorPa6
import Derived.Test.YtkmcjjlkammlaaaDoorPo
import Derived.Test.YtkmcjjlkammlaaaDoorPz
import Derived.Laws.BitsAllLaws
namespace Go.Proofs.YtkmcjjlkammlaaaDoor
open Go.RowKit Go.Lib

theorem img_set (l : List UInt8) (i : Nat) (x : UInt8) : (img l).setIfInBounds i (.int .u8 (x.toNat : Int)) = img (l.set i x) := by
  simp [img, byteCells, List.map_set]
theorem lies_img {u : World} {l : List UInt8} {G : Nat} (h : u.heap[G]? = some (.cells (img l) 52 (0, 0))) : LiesB u (some ⟨G, 0, none⟩) l :=
  fun _ => ⟨G, 0, rfl, (Array.getElem?_eq_some_iff.1 h).1, fun j hj => by rw [Nat.zero_add, cellOf h, img_at _ j hj]⟩
theorem turn_byte (x : UInt8) (b : Nat) (hb : b < 256) (h0 : b ≠ 0) : ∃ y : UInt8, bits .xor .u8 (x.toNat : Int) (b : Int) = (y.toNat : Int) ∧ x ≠ y := by
  have hx := x.toNat_lt
  have hl : x.toNat ^^^ b < 2 ^ 8 := Nat.xor_lt_two_pow hx hb
  have ht : (UInt8.ofNat (x.toNat ^^^ b)).toNat = x.toNat ^^^ b := by rw [UInt8.toNat_ofNat']; exact Nat.mod_eq_of_lt hl
  refine ⟨UInt8.ofNat (x.toNat ^^^ b), ?_, fun e => h0 ?_⟩
  · rw [u8_xor_nat _ _ hx hb, ht]
  · have h1 := congrArg UInt8.toNat e
    rw [ht] at h1
    have h2 : x.toNat ^^^ x.toNat = x.toNat ^^^ (x.toNat ^^^ b) := by rw [← h1]
    rw [Nat.xor_self, ← Nat.xor_assoc, Nat.xor_self, Nat.zero_xor] at h2
    exact h2.symm
/-- Decode of the turned bytes -/
theorem pTurned (p : Pg) (hw : p.wrong = 0) (i : Nat) (hi : i < 1024) (y : UInt8) (hy : p.enc[i]? ≠ some y) (num G : Nat) (u : World) (hG : u.heap[G]? = some (.cells (img (p.enc.set i y)) 52 (0, 0))) (hT : Tab u) :
    Calls Tryd.prog 14 #[.slice (some ⟨G, 0, none⟩) 1024 1024, .int .u32 (num : Int)] u fun e w' => e = .returned (.tuple #[.agg #[.int .u8 0, .int .u32 0, .int .u64 0, .string ⟨#[]⟩], .int .i64 50]) ∧ Below u.heap.size u w' := by
  have la : (p.enc.set i y).length = 1024 := by rw [List.length_set]; exact p.bytes_len (Pg.may hw).2 _
  have h := pDecAny (p.enc.set i y) (some ⟨G, 0, none⟩) 1024 num u (lies_img hG) hT
  have h50 := dec_turn p hw i hi y hy num
  have hz : (dec (p.enc.set i y) num).1 = Pg.zero := dec_bad (by rw [h50]; decide)
  rw [la, h50, hz] at h
  exact h
set_option maxRecDepth 100000 in
set_option maxHeartbeats 4000000 in
theorem turns_walk (p : Pg) (hp : p.Fit) (at' : Int) (b num : Nat) (hb256 : b < 256) (w : World) (hT : Tab w) : Calls Tryd.prog 8 #[.agg p.cs, .int .i64 at', .int .u8 (b : Int), .int .u32 (num : Int)] w fun e w' => e = .returned (.bool true) ∧ Below w.heap.size w w' := by
  have HT := hide hT
  have HB2 := hide hb256
  have HAw := hide (fun u (hu : Tab u) => awake_ok u hu)
  have HM := hide (fun u => mMay p u)
  have HE := hide (fun (hw : p.wrong = 0) u (hu : Tab u) => pEncode p hp hw u hu)
  have HTu := hide (fun (hw : p.wrong = 0) (i : Nat) (hi : i < 1024) (y : UInt8) (hy : p.enc[i]? ≠ some y) => pTurned p hw i hi y hy p.num)
  have HTn := hide (fun (hw : p.wrong = 0) (i : Nat) (hi : i < 1024) (y : UInt8) (hy : p.enc[i]? ≠ some y) => pTurned p hw i hi y hy num)
  have EP : p.cs = #[.int .u8 (p.kind : Int), .int .u32 (p.num : Int), .int .u64 (p.ser : Int), .string p.body] := rfl
  rw [EP] at HM HE
  rw [EP]
  have HX := hide (Xb.start w #[.int .u8 (p.kind : Int), .int .u32 (p.num : Int), .int .u64 (p.ser : Int), .string p.body] 25)
  clear hp hT EP hb256
  generalize p.kind = kd at *
  generalize p.num = nm at *
  generalize p.ser = sr at *
  generalize p.body = bd at *
  go_enter Tryd.func8, Tryd.ntmps8
  go_wp2_with fail
  generalize (w.alloc (.cells #[.int .u8 (kd : Int), .int .u32 (nm : Int), .int .u64 (sr : Int), .string bd] 25)) = w0 at *
  refine (unhide HAw _ ((unhide HT).below (unhide HX).bel (unhide HT).pos)).mono ?_
  rintro e w1 ⟨rfl, hb⟩
  have HX2 := hide ((unhide HX).below hb)
  clear HX
  have HX := hide (unhide HX2)
  clear HX2
  clear hb HAw
  have x0 := (unhide HX).x 0
  have x1 := (unhide HX).x 1
  have x2 := (unhide HX).x 2
  have x3 := (unhide HX).x 3
  simp only [List.getElem?_toArray, List.getElem?_cons_zero, List.getElem?_cons_succ] at x0 x1 x2 x3
  go_wp2_with fail
  clear x0 x1 x2 x3
  by_cases hw : p.wrong = 0
  rotate_left
  · rw [decide_eq_false hw] at HM
    refine (unhide HM _).mono ?_
    rintro e w2 ⟨rfl, hb⟩
    have HX2 := hide ((unhide HX).below hb)
    clear HX
    have HX := hide (unhide HX2)
    clear HX2
    clear hb
    have x0 := (unhide HX).x 0
    have x1 := (unhide HX).x 1
    have x2 := (unhide HX).x 2
    have x3 := (unhide HX).x 3
    simp only [List.getElem?_toArray, List.getElem?_cons_zero, List.getElem?_cons_succ] at x0 x1 x2 x3
    go_wp2
    go_ret
    exact ⟨rfl, (unhide HX).bel⟩
  rw [hw, decide_eq_true rfl] at HM
  have HW := hide hw
  clear hw
  refine (unhide HM _).mono ?_
  rintro e w2 ⟨rfl, hb⟩
  have HX2 := hide ((unhide HX).below hb)
  clear HX
  have HX := hide (unhide HX2)
  clear HX2
  clear hb HM
  by_cases hb0 : b = 0
  · subst hb0
    have x0 := (unhide HX).x 0
    have x1 := (unhide HX).x 1
    have x2 := (unhide HX).x 2
    have x3 := (unhide HX).x 3
    simp only [List.getElem?_toArray, List.getElem?_cons_zero, List.getElem?_cons_succ] at x0 x1 x2 x3
    go_wp2
    go_ret
    exact ⟨rfl, (unhide HX).bel⟩
  have hbi : ¬ (b : Int) = 0 := by omega
  have HB0 := hide hb0
  clear hb0
  have x0 := (unhide HX).x 0
  have x1 := (unhide HX).x 1
  have x2 := (unhide HX).x 2
  have x3 := (unhide HX).x 3
  simp only [List.getElem?_toArray, List.getElem?_cons_zero, List.getElem?_cons_succ] at x0 x1 x2 x3
  go_wp2_with fail
  clear x0 x1 x2 x3
  refine (unhide HE (unhide HW) _ ((unhide HT).below (unhide HX).bel (unhide HT).pos)).mono ?_
  rintro e w3 ⟨G, rfl, hge, hG, hb⟩
  have HXl := hide (And.intro hge (And.intro (unhide HX).xl (unhide HX).bel.size))
  have HX2 := hide ((unhide HX).below hb)
  clear HX
  have HX := hide (unhide HX2)
  clear HX2
  have HG := hide hG
  clear hb hG hge HE hbi
  obtain ⟨m, hm, hm1, hm2⟩ : ∃ m : Int, at'.tmod 1024 = m ∧ -1024 < m ∧ m < 1024 := ⟨_, rfl, by have := Int.tmod_lt_of_pos (-at') (b := 1024) (by decide); rw [Int.neg_tmod] at this; omega, Int.tmod_lt_of_pos _ (by decide)⟩
  obtain ⟨i, hi, hi2⟩ : ∃ i : Nat, (m + 1024).tmod 1024 = (i : Int) ∧ i < 1024 := by
    have h1 := Int.tmod_lt_of_pos (m + 1024) (b := 1024) (by decide)
    have h2 := Int.tmod_nonneg (a := m + 1024) 1024 (by omega)
    exact ⟨((m + 1024).tmod 1024).toNat, by omega, by omega⟩
  have hii : (i : Int) < 1024 := by omega
  have la : p.enc.length = 1024 := p.bytes_len (Pg.may (unhide HW)).2 _
  have HI := hide (And.intro hi2 la)
  have hil : i < p.enc.length := by omega
  obtain ⟨y, hy, hxy⟩ := turn_byte p.enc[i] b (unhide HB2) (unhide HB0)
  have HY : Hid (p.enc[i]? ≠ some y) := fun e => hxy (by rw [List.getElem?_eq_getElem hil] at e; exact Option.some.inj e)
  have hc : w3.cell? ⟨G, i, none⟩ = some (.int .u8 (p.enc[i].toNat : Int)) := by rw [cellOf (unhide HG), img_at _ i hil]
  have hf : w3.frozen? ⟨G, i, none⟩ = false := by simp [World.frozen?, unhide HG]
  have HGn : Hid ((w3.setCell ⟨G, i, none⟩ (.int .u8 (y.toNat : Int))).heap[G]? = some (.cells (img (p.enc.set i y)) 52 (0, 0))) := by
    have h := heapCell_same (unhide HG) i (.int .u8 (y.toNat : Int))
    rw [img_set] at h
    exact h
  have HXn := hide ((unhide HX).grown (grown_set (grown_refl w3 (some G)) i (.int .u8 (y.toNat : Int))) (fun k hk => by cases hk; exact (unhide HXl).1) (unhide HXl).2.1 (unhide HXl).2.2)
  generalize p.enc[i].toNat = xo at *
  clear hxy la hil hi2 HB0 HB2 HG HXl
  generalize hyn : y.toNat = yn at *
  have HYn := hide hyn
  clear hyn
  have n0 := (unhide HXn).x 0
  have n1 := (unhide HXn).x 1
  have n2 := (unhide HXn).x 2
  have n3 := (unhide HXn).x 3
  simp only [List.getElem?_toArray, List.getElem?_cons_zero, List.getElem?_cons_succ] at n0 n1 n2 n3
  have x0 := (unhide HX).x 0
  have x1 := (unhide HX).x 1
  have x2 := (unhide HX).x 2
  have x3 := (unhide HX).x 3
  simp only [List.getElem?_toArray, List.getElem?_cons_zero, List.getElem?_cons_succ] at x0 x1 x2 x3
  go_wp2_with fail
  clear x0 x1 x2 x3
  clear n0 n1 n2 n3 hc hf hy hi hm hm1 hm2 hii
  generalize (w3.setCell ⟨G, i, none⟩ (.int .u8 (yn : Int))) = w4 at *
  clear HX
  have HX := hide (unhide HXn)
  clear HXn
  have HG := hide (unhide HGn)
  clear HGn
  refine (unhide HTu (unhide HW) i (unhide HI).1 y (unhide HY) G _ (unhide HG) ((unhide HT).below (unhide HX).bel (unhide HT).pos)).mono ?_
  rintro e w5 ⟨rfl, hb⟩
  have HG5 := hide ((hb.block G (Array.getElem?_eq_some_iff.1 (unhide HG)).1).trans (unhide HG))
  clear HG
  have HX2 := hide ((unhide HX).below hb)
  clear HX
  have HX := hide (unhide HX2)
  clear HX2
  clear hb HTu
  have HXn := hide ((unhide HX).below (Xb.start w5 #[.int .u8 0, .int .u32 0, .int .u64 0, .string ⟨#[]⟩] 25).bel)
  have HG := hide (((Xb.start w5 #[.int .u8 0, .int .u32 0, .int .u64 0, .string ⟨#[]⟩] 25).bel.block G (Array.getElem?_eq_some_iff.1 (unhide HG5)).1).trans (unhide HG5))
  clear HG5
  have n0 := (unhide HXn).x 0
  have n1 := (unhide HXn).x 1
  have n2 := (unhide HXn).x 2
  have n3 := (unhide HXn).x 3
  simp only [List.getElem?_toArray, List.getElem?_cons_zero, List.getElem?_cons_succ] at n0 n1 n2 n3
  have hxl2 := (unhide HX).xl
  have x0 := (unhide HX).x 0
  have x1 := (unhide HX).x 1
  have x2 := (unhide HX).x 2
  have x3 := (unhide HX).x 3
  simp only [List.getElem?_toArray, List.getElem?_cons_zero, List.getElem?_cons_succ] at x0 x1 x2 x3
  go_wp2_with fail
  clear x0 x1 x2 x3
  clear n0 n1 n2 n3 hxl2
  generalize (w5.alloc (.cells #[.int .u8 0, .int .u32 0, .int .u64 0, .string ⟨#[]⟩] 25)) = u5 at *
  clear HX
  have HX := hide (unhide HXn)
  clear HXn
  refine (unhide HTn (unhide HW) i (unhide HI).1 y (unhide HY) G _ (unhide HG) ((unhide HT).below (unhide HX).bel (unhide HT).pos)).mono ?_
  rintro e w6 ⟨rfl, hb⟩
  have HX2 := hide ((unhide HX).below hb)
  clear HX
  have HX := hide (unhide HX2)
  clear HX2
  clear hb HTn HG
  have HB6 := hide ((unhide HX).bel.alloc (unhide HX).bel.size (.cells #[.int .u8 0, .int .u32 0, .int .u64 0, .string ⟨#[]⟩] 25))
  have x0 := (unhide HX).x 0
  have x1 := (unhide HX).x 1
  have x2 := (unhide HX).x 2
  have x3 := (unhide HX).x 3
  simp only [List.getElem?_toArray, List.getElem?_cons_zero, List.getElem?_cons_succ] at x0 x1 x2 x3
  go_wp2
  go_ret
  exact ⟨rfl, unhide HB6⟩
theorem turns_all (p : Pg) (hp : p.Fit) (at' b num : Int) (hb0 : 0 ≤ b) (hb1 : b < 256) (hn : 0 ≤ num) (w : World) (hT : Tab w) : Calls Tryd.prog 8 #[.agg p.cs, .int .i64 at', .int .u8 b, .int .u32 num] w fun e w' => e = .returned (.bool true) ∧ Below w.heap.size w w' := by
  obtain ⟨n, rfl⟩ := Int.eq_ofNat_of_zero_le hn
  obtain ⟨k, rfl⟩ := Int.eq_ofNat_of_zero_le hb0
  exact turns_walk p hp at' k n (by omega) w hT
end Go.Proofs.YtkmcjjlkammlaaaDoor
