/- Objects: the law's spoil. -/
import Derived.Test.YtkcbljmjhlnjpaaQ24
namespace Go.Proofs.Ytkcbljmjhlnjpaa
open Go.RowKit Go.Lib
/-- but for the blocks from B to E, and new ones, all lies as it lay -/
structure Rg (u w : World) (B E : Nat) : Prop where
  os : w.os = u.os
  tape : w.tape = u.tape
  output : w.output = u.output
  size : u.heap.size ≤ w.heap.size
  block : ∀ k, k < u.heap.size → k < B ∨ E ≤ k → w.heap[k]? = u.heap[k]?
theorem Rg.refl (u : World) (B E : Nat) : Rg u u B E := ⟨rfl, rfl, rfl, Nat.le_refl _, fun _ _ _ => rfl⟩
theorem Rg.grown {u w w' : World} {B E : Nat} {r : Option Nat} (h : Rg u w B E) (hg : w.grownBy w' r) (hr : ∀ g, r = some g → B ≤ g ∧ (g < E ∨ u.heap.size ≤ g)) : Rg u w' B E :=
  ⟨hg.os.trans h.os, hg.tape.trans h.tape, hg.output.trans h.output, Nat.le_trans h.size hg.size, fun k hk hx => (hg.block k (Nat.lt_of_lt_of_le hk h.size) (fun e => by have := hr k e.symm; omega)).trans (h.block k hk hx)⟩
theorem Rg.below {u w w' : World} {B E : Nat} (h : Rg u w B E) (hb : Below w.heap.size w w') : Rg u w' B E :=
  ⟨hb.os.trans h.os, hb.tape.trans h.tape, hb.output.trans h.output, Nat.le_trans h.size hb.size, fun k hk hx => (hb.block k (Nat.lt_of_lt_of_le hk h.size)).trans (h.block k hk hx)⟩
theorem gb_trans {w w1 w2 : World} {r : Option Nat} (h1 : w.grownBy w1 r) (h2 : w1.grownBy w2 r) : w.grownBy w2 r :=
  ⟨h2.os.trans h1.os, h2.tape.trans h1.tape, h2.output.trans h1.output, Nat.le_trans h1.size h2.size, fun k hk hn => (h2.block k (Nat.lt_of_lt_of_le hk h1.size) hn).trans (h1.block k hk hn)⟩
/-- the block of a list lies below E, or is new -/
def Nr (u : World) (E : Nat) (ao : Option Addr) : Prop := ∀ x, ao = some x → x.block < E ∨ u.heap.size ≤ x.block
theorem own_ty {w : World} {B e size n : Nat} {v : Value} {xs : List Value} (h : w.ownsRow B e size v n xs) {g : Nat} (hg : v.ownBlock = some g) : B ≤ g ∧ ∃ cur, w.heap[g]? = some (.cells cur e (0, 0)) := by
  rcases h.2 with ⟨rfl, _⟩ | ⟨g', cap, cur, rfl, h1, h2, _⟩
  · cases hg
  · cases hg; exact ⟨h1, cur, h2⟩
theorem own_other {w w' : World} {B B' e e' size size' n n' : Nat} {v v' : Value} {xs xs' : List Value} (h : w.ownsRow B e size v n xs) (h' : w.ownsRow B' e' size' v' n' xs') (hne : e ≠ e') (hg : w.grownBy w' v'.ownBlock) : w'.ownsRow B e size v n xs := by
  refine own_keep h fun g hv => ?_
  obtain ⟨_, c1, h1⟩ := own_ty h hv
  refine hg.block g (Array.getElem?_eq_some_iff.1 h1).1 fun hx => ?_
  obtain ⟨_, c2, h2⟩ := own_ty h' hx.symm
  rw [h1] at h2
  simp only [Option.some.injEq, Obj.cells.injEq] at h2
  exact hne h2.2.1
theorem flatS_set : ∀ (l : List Sb) (k : Nat) (x : Sb), ((((flatS l).set (k * 4) (.int .u32 (x.a : Int))).set (k * 4 + 1) (.int .u64 (x.c : Int))).set (k * 4 + 1 + 1) (.bool x.gone)).set (k * 4 + 1 + 1 + 1) (.string x.val) = flatS (l.set k x)
  | [], k, x => by simp [flatS]
  | c :: cs, 0, x => by simp [flatS, Sb.cs]
  | c :: cs, k + 1, x => by
    have ih := flatS_set cs k x
    have e : flatS (c :: cs) = .int .u32 (c.a : Int) :: .int .u64 (c.c : Int) :: .bool c.gone :: .string c.val :: flatS cs := rfl
    rw [e, show (k + 1) * 4 = k * 4 + 1 + 1 + 1 + 1 by omega]
    simp only [List.set_cons_succ]
    rw [ih]
    rfl
section
variable {w : World} {B g c : Nat}
theorem OwnS.set {l : List Sb} (h : OwnS w B l (some ⟨g, 0, none⟩) c) (k : Nat) (x : Sb) : OwnS (w.setCells g (k * 4) [.int .u32 (x.a : Int), .int .u64 (x.c : Int), .bool x.gone, .string x.val]) B (l.set k x) (some ⟨g, 0, none⟩) c ∧ w.grownBy (w.setCells g (k * 4) [.int .u32 (x.a : Int), .int .u64 (x.c : Int), .bool x.gone, .string x.val]) (some g) := by
  have s1 := World.ownsRow.stored h (k * 4) (.int .u32 (x.a : Int))
  have s2 := s1.1.stored (k * 4 + 1) (.int .u64 (x.c : Int))
  have s3 := s2.1.stored (k * 4 + 1 + 1) (.bool x.gone)
  have s4 := s3.1.stored (k * 4 + 1 + 1 + 1) (.string x.val)
  refine ⟨?_, gb_trans s1.2 (gb_trans s2.2 (gb_trans s3.2 s4.2))⟩
  have s5 := s4.1
  rw [flatS_set] at s5
  unfold OwnS
  rw [List.length_set]
  exact s5
theorem OwnS.there {l : List Sb} (h : OwnS w B l (some ⟨g, 0, none⟩) c) {k : Nat} (hk : k < l.length) : w.there g (k * 4) 4 := fun j hj => by
  have hl : (flatS l).length = l.length * 4 := flatS_len l
  refine ⟨?_, World.ownsRow.frozenAt h _⟩
  rw [World.ownsRow.cellAt h (k * 4 + j) (by omega), List.getElem?_eq_getElem (by omega)]
  rfl
theorem OwnS.pos {l : List Sb} {ao : Option Addr} (h : OwnS w B l ao c) (h0 : 0 < l.length) : ∃ g, ao = some ⟨g, 0, none⟩ := by
  rcases h.2 with ⟨_, hn⟩ | ⟨g, cap, cur, hv, h1, h2, h3, h4, h5, h6⟩
  · omega
  · simp only [Value.slice.injEq] at hv; exact ⟨g, hv.1⟩
theorem OwnD.setg {l : List (Nat × Nat)} (h : OwnD w B l (some ⟨g, 0, none⟩) c) (k q p : Nat) : w.grownBy (w.setCells g (k * 2) [.int .u32 (q : Int), .int .u64 (p : Int)]) (some g) := by
  have s1 := World.ownsRow.stored h (k * 2) (.int .u32 (q : Int))
  have s2 := s1.1.stored (k * 2 + 1) (.int .u64 (p : Int))
  exact gb_trans s1.2 s2.2
end
/-- two lists of one's own that are being spoiled -/
structure Sl (u w : World) (B E : Nat) (d : List (Nat × Nat)) (xd : Option Addr) (cd : Nat) (s : List Sb) (xs : Option Addr) (cs : Nat) : Prop where
  rg : Rg u w B E
  hB : B ≤ u.heap.size
  od : OwnD w B d xd cd
  ob : OwnS w B s xs cs
  nd : Nr u E xd
  ns : Nr u E xs
section
variable {u w w' : World} {B E : Nat} {d : List (Nat × Nat)} {xd : Option Addr} {cd : Nat} {s : List Sb} {xs : Option Addr} {cs : Nat}
theorem Sl.below (h : Sl u w B E d xd cd s xs cs) (hb : Below w.heap.size w w') : Sl u w' B E d xd cd s xs cs := ⟨h.rg.below hb, h.hB, h.od.below hb, h.ob.below hb, h.nd, h.ns⟩
theorem Sl.base (h : Sl u w B E d xd cd s xs cs) : B ≤ w.heap.size := Nat.le_trans h.hB h.rg.size
theorem nr_blk {n : Nat} {ao : Option Addr} {c g : Nat} (h : Nr u E ao) (hg : (Value.slice ao n c).ownBlock = some g) : g < E ∨ u.heap.size ≤ g := by
  cases ao with
  | none => cases hg
  | some x => cases hg; exact h x rfl
theorem nr_next {ao ao' : Option Addr} (h : Nr u E ao) (hs : u.heap.size ≤ w.heap.size) (hn : ∀ x, ao' = some x → ∃ g, x = ⟨g, 0, none⟩) (hf : ∀ g o, ao' = some ⟨g, o, none⟩ → (∃ o', ao = some ⟨g, o', none⟩) ∨ w.heap.size ≤ g) : Nr u E ao' := fun x hx => by
  obtain ⟨g, rfl⟩ := hn x hx
  rcases hf g 0 hx with ⟨o', ho⟩ | h1
  · have := h _ ho; exact this
  · exact .inr (Nat.le_trans hs h1)
theorem own_zero {B e size n : Nat} {ao : Option Addr} {c m : Nat} {xs : List Value} (h : w.ownsRow B e size (.slice ao m c) n xs) : ∀ x, ao = some x → ∃ g, x = ⟨g, 0, none⟩ := fun x hx => by
  rcases h.2 with ⟨h1, _⟩ | ⟨g', cap, cur, h1, _⟩
  · simp only [Value.slice.injEq] at h1; rw [h1.1] at hx; cases hx
  · simp only [Value.slice.injEq] at h1; rw [h1.1] at hx; cases hx; exact ⟨g', rfl⟩
theorem Sl.putD {d' : List (Nat × Nat)} {xd' : Option Addr} {cd' : Nat} (h : Sl u w B E d xd cd s xs cs) (ho : OwnD w' B d' xd' cd') (hg : w.grownBy w' (Value.slice xd d.length cd).ownBlock) (hf : ∀ g o, xd' = some ⟨g, o, none⟩ → (∃ o', xd = some ⟨g, o', none⟩) ∨ w.heap.size ≤ g) : Sl u w' B E d' xd' cd' s xs cs :=
  ⟨h.rg.grown hg (fun g hr => ⟨(own_ty h.od hr).1, nr_blk h.nd hr⟩), h.hB, ho, own_other h.ob h.od (by decide) hg, nr_next h.nd h.rg.size (own_zero ho) hf, h.ns⟩
theorem Sl.putS {s' : List Sb} {xs' : Option Addr} {cs' : Nat} (h : Sl u w B E d xd cd s xs cs) (ho : OwnS w' B s' xs' cs') (hg : w.grownBy w' (Value.slice xs s.length cs).ownBlock) (hf : ∀ g o, xs' = some ⟨g, o, none⟩ → (∃ o', xs = some ⟨g, o', none⟩) ∨ w.heap.size ≤ g) : Sl u w' B E d xd cd s' xs' cs' :=
  ⟨h.rg.grown hg (fun g hr => ⟨(own_ty h.ob hr).1, nr_blk h.ns hr⟩), h.hB, own_other h.od h.ob (by decide) hg, ho, h.nd, nr_next h.ns h.rg.size (own_zero ho) hf⟩
theorem Sl.setD {g : Nat} (h : Sl u w B E d (some ⟨g, 0, none⟩) cd s xs cs) (k q p : Nat) : Sl u (w.setCells g (k * 2) [.int .u32 (q : Int), .int .u64 (p : Int)]) B E (d.set k (q, p)) (some ⟨g, 0, none⟩) cd s xs cs :=
  h.putD (h.od.set k q p) (h.od.setg k q p) (fun _ o ho => .inl ⟨o, ho⟩)
theorem Sl.setS {g : Nat} (h : Sl u w B E d xd cd s (some ⟨g, 0, none⟩) cs) (k : Nat) (x : Sb) : Sl u (w.setCells g (k * 4) [.int .u32 (x.a : Int), .int .u64 (x.c : Int), .bool x.gone, .string x.val]) B E d xd cd (s.set k x) (some ⟨g, 0, none⟩) cs :=
  h.putS (h.ob.set k x).1 (h.ob.set k x).2 (fun _ o ho => .inl ⟨o, ho⟩)
end
set_option maxRecDepth 100000 in
set_option maxHeartbeats 8000000 in
theorem lSpoil (k mk : ByteArray) (d : List (Nat × Nat)) (s : List Sb) (xd xs : Option Addr) (cd cs n m B E : Nat) (u : World) (hn : n = d.length) (hm : m = s.length) (hn6 : n ≤ 1000) (hm6 : m ≤ 1000) (h : Sl u u B E d xd cd s xs cs) :
    Calls Try.prog 20 #[.agg #[.string k, .slice xd n cd, .slice xs m cs], .string mk] u fun e u' => e = .returned (.int .i64 ((n + m + 40 : Nat) : Int)) ∧ Rg u u' B E := by
  obtain ⟨N, hN⟩ : ∃ N, N = u.heap.size := ⟨_, rfl⟩
  have HN := hide hN
  have H0 : Hid (∀ G : World, Below N u G → Sl u G B E d xd cd s xs cs) := fun G hG => h.below (by rw [← hN]; exact hG)
  have hni : (n : Int) ≤ 1000 := by omega
  have hmi : (m : Int) ≤ 1000 := by omega
  have HND := hide hn
  have HMD := hide hm
  clear hN h hn hm
  go_enter Try.func20, Try.ntmps20
  go_wp2_with (first
    | ((with_reducible refine wpList_box_ob (by rfl) (.tmp 0) (by rfl) (some 2) (by rfl) N (unhide HN) k ⟨xd, cd, xs, cs⟩ n m (by with_unfolding_all rfl) ?_); intro X1 HX1 HB1 HS1; simp only [Act.put, List.setIfInBounds_toArray, List.set_cons_zero, List.set_cons_succ]; have HI1 := hide (unhide H0 _ (unhide HB1)); obtain ⟨c0, c1, c2⟩ := ob_cells (unhide HX1))
    | fail)
  clear H0 c0 c1 c2 HX1 HB1 HS1
  go_loopw [7] (fun s7 wr => ∃ (i : Nat) (d2 : List (Nat × Nat)), i ≤ n ∧ s7 = .int .i64 (i : Int) ∧ Hid (d2.length = n) ∧ Hid (Sl u wr B E d2 xd cd s xs cs)) (fun s7 _ => n - (intOf s7).toNat)
  case atStart => exact ⟨0, d, Nat.zero_le _, rfl, hide (unhide HND).symm, unhide HI1⟩
  case round =>
    clear HI1 HND
    obtain ⟨i, d2, hin, rfl, HL2, HI⟩ := hrel
    have hii0 : (i : Int) ≤ 1000 := by omega
    by_cases hi : i < n
    · have hii : (i : Int) < (n : Int) := by omega
      obtain ⟨g, hg⟩ := (unhide HI).od.pos (by rw [unhide HL2]; omega)
      subst hg
      have HTH := hide ((unhide HI).od.there (k := i) (by rw [unhide HL2]; omega))
      have HI2 := hide ((unhide HI).setD i 8 2251799813685248)
      go_wp2_with (first
        | (refine wpList_store_mid (by rfl) 53 (.tmp 26) (.tmp 25) (by rfl) g (i * 2) #[.int .u32 8, .int .u64 2251799813685248] (by with_unfolding_all rfl) (by with_unfolding_all rfl) (unhide HTH) dotInfo (dot_one _ _) ?_; simp only [Act.put])
        | fail)
      go_roundw
      case rel => exact ⟨i + 1, d2.set i (8, 2251799813685248), hi, by go_num, hide (by rw [List.length_set]; exact unhide HL2), unhide HI2⟩
      case measure => simp [intOf]; omega
    · obtain rfl : i = n := by omega
      have hii : ¬ (i : Int) < (i : Int) := by omega
      clear hi hin hii0
      go_wp2_with fail
      go_loopw [8] (fun s8 wr => ∃ (j : Nat) (s2 : List Sb), j ≤ m ∧ s8 = .int .i64 (j : Int) ∧ Hid (s2.length = m) ∧ Hid (Sl u wr B E d2 xd cd s2 xs cs)) (fun s8 _ => m - (intOf s8).toNat)
      case atStart => exact ⟨0, s, Nat.zero_le _, rfl, hide (unhide HMD).symm, unhide HI⟩
      case round =>
        clear HI HMD
        obtain ⟨j, s2, hjm, rfl, HM2, HI⟩ := hrel
        have hjj0 : (j : Int) ≤ 1000 := by omega
        by_cases hj : j < m
        · have hjj : (j : Int) < (m : Int) := by omega
          obtain ⟨g, hg⟩ := (unhide HI).ob.pos (by rw [unhide HM2]; omega)
          subst hg
          have HTH := hide ((unhide HI).ob.there (k := j) (by rw [unhide HM2]; omega))
          have HI2 := hide ((unhide HI).setS j ⟨0, 0, false, mk⟩)
          go_wp2_with (first
            | (refine wpList_store_mid (by rfl) 69 (.tmp 37) (.tmp 36) (by rfl) g (j * 4) #[.int .u32 0, .int .u64 0, .bool false, .string mk] (by with_unfolding_all rfl) (by with_unfolding_all rfl) (unhide HTH) sibInfo (sib_one ⟨0, 0, false, mk⟩) ?_; simp only [Act.put])
            | fail)
          go_roundw
          case rel => exact ⟨j + 1, s2.set j ⟨0, 0, false, mk⟩, hj, by go_num, hide (by rw [List.length_set]; exact unhide HM2), unhide HI2⟩
          case measure => simp [intOf]; omega
        · obtain rfl : j = m := by omega
          have hjj : ¬ (j : Int) < (j : Int) := by omega
          clear hj hjm hjj0
          go_wp2_with fail
          go_loopw [5, 9] (fun s5 s9 wr => ∃ (a : Nat) (d3 : List (Nat × Nat)) (xo : Option Addr) (n3 c3 : Nat), a ≤ 20 ∧ s5 = .slice xo n3 c3 ∧ s9 = .int .i64 (a : Int) ∧ Hid (n3 = d3.length) ∧ Hid (d3.length = i + a) ∧ Hid (Sl u wr B E d3 xo c3 s2 xs cs)) (fun _ s9 _ => 20 - (intOf s9).toNat)
          case atStart => exact ⟨0, d2, xd, i, cd, Nat.zero_le _, rfl, rfl, hide (unhide HL2).symm, HL2, unhide HI⟩
          case round =>
            clear HI HL2
            obtain ⟨a, d3, xo, n3, c3, ha, rfl, rfl, HN3, HL3, HI⟩ := hrel
            by_cases ha2 : a < 20
            · have haa : (a : Int) < 20 := by omega
              have HV : Hid (∀ G : World, Sl u G B E d3 xo c3 s2 xs cs → Sl u (G.alloc (.cells #[.int .u32 8, .int .u64 2251799813685248] 53)) B E d3 xo c3 s2 xs cs) := fun G hG => hG.below ((Below.refl _ _).alloc (Nat.le_refl _) _)
              have HD := hide (Dv.one wr (8, 2251799813685248) 53)
              have HI2 := hide (unhide HV wr (unhide HI))
              go_wp2_with (first
                | (at_builtin; refine wpList_putD (by rfl) (.tmp 42) (.tmp 44) (by rfl) (some 45) (by rfl) B d3 [(8, 2251799813685248)] n3 1 (unhide HN3) rfl xo (some ⟨wr.heap.size, 0, none⟩) c3 1 (by rfl) (by rfl) (unhide HI2).od (unhide HD) (by have := unhide HL3; simp only [List.length_cons, List.length_nil]; omega) (unhide HI2).base ?_; intro x4 n4 c4 X4 HN4 HO4 HG4 _ HF4; simp only [Act.put, List.setIfInBounds_toArray, List.set_cons_zero, List.set_cons_succ])
                | fail)
              have HI4 := hide ((unhide HI2).putD (unhide HO4) (unhide HG4) (unhide HF4))
              go_roundw
              case rel => exact ⟨a + 1, d3 ++ [(8, 2251799813685248)], x4, n4, c4, ha2, rfl, by go_num, unhide HN4, hide (by have := unhide HL3; rw [List.length_append]; have h3 : [((8 : Nat), (2251799813685248 : Nat))].length = 1 := rfl; omega), unhide HI4⟩
              case measure => simp [intOf]; omega
            · obtain rfl : a = 20 := by omega
              clear ha ha2
              go_wp2_with fail
              go_loopw [6, 10] (fun s6 s10 wr => ∃ (b : Nat) (s3 : List Sb) (xp : Option Addr) (m3 c5 : Nat), b ≤ 20 ∧ s6 = .slice xp m3 c5 ∧ s10 = .int .i64 (b : Int) ∧ Hid (m3 = s3.length) ∧ Hid (s3.length = j + b) ∧ Hid (Sl u wr B E d3 xo c3 s3 xp c5)) (fun _ s10 _ => 20 - (intOf s10).toNat)
              case atStart => exact ⟨0, s2, xs, j, cs, Nat.zero_le _, rfl, rfl, hide (unhide HM2).symm, HM2, unhide HI⟩
              case round =>
                clear HI HM2
                obtain ⟨b, s3, xp, m3, c5, hb, rfl, rfl, HM3, HK3, HI⟩ := hrel
                by_cases hb2 : b < 20
                · have hbb : (b : Int) < 20 := by omega
                  have HD := hide (Dw.one wr ⟨0, 0, false, mk⟩ 69)
                  have HI2 : Hid (Sl u (wr.alloc (.cells #[.int .u32 ((0 : Nat) : Int), .int .u64 ((0 : Nat) : Int), .bool false, .string mk] 69)) B E d3 xo c3 s3 xp c5) := (unhide HI).below ((Below.refl _ _).alloc (Nat.le_refl _) _)
                  go_wp2_with (first
                    | (at_builtin; refine wpList_putS (by rfl) (.tmp 50) (.tmp 53) (by rfl) (some 54) (by rfl) B s3 [⟨0, 0, false, mk⟩] m3 1 (unhide HM3) rfl xp (some ⟨wr.heap.size, 0, none⟩) c5 1 (by rfl) (by rfl) (unhide HI2).ob (unhide HD) (by have := unhide HK3; simp only [List.length_cons, List.length_nil]; omega) (unhide HI2).base ?_; intro x4 n4 c4 X4 HN4 HO4 HG4 _ HF4; simp only [Act.put, List.setIfInBounds_toArray, List.set_cons_zero, List.set_cons_succ])
                    | fail)
                  have HI4 := hide ((unhide HI2).putS (unhide HO4) (unhide HG4) (unhide HF4))
                  go_roundw
                  case rel => exact ⟨b + 1, s3 ++ [(⟨0, 0, false, mk⟩ : Sb)], x4, n4, c4, hb2, rfl, by go_num, unhide HN4, hide (by have := unhide HK3; rw [List.length_append]; have h3 : [(⟨0, 0, false, mk⟩ : Sb)].length = 1 := rfl; omega), unhide HI4⟩
                  case measure => simp [intOf]; omega
                · obtain rfl : b = 20 := by omega
                  clear hb hb2
                  have hn3 : n3 = i + 20 := by rw [unhide HN3]; exact unhide HL3
                  have hm3 : m3 = j + 20 := by rw [unhide HM3]; exact unhide HK3
                  clear HN3 HM3
                  subst hn3 hm3
                  go_wp2_with fail
                  go_returns
                  refine ⟨?_, (unhide HI).rg⟩
                  show Ending.returned (Value.int IntKind.i64 ((i : Int) + 20 + ((j : Int) + 20))) = _
                  rw [show ((i : Int) + 20 + ((j : Int) + 20)) = ((i + j + 40 : Nat) : Int) from by omega]
end Go.Proofs.Ytkcbljmjhlnjpaa
