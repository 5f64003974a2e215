/- Cut out of the texts of elder seats by cut.py and less.py. -/
import Derived.Test.YtopabadnbelegaaQDgb
import Derived.Test.YtopabadnbelegaaQDga
import Derived.WalkKit
import Derived.WalkLawsBesides
import Derived.ProofKit
import Derived.OpenShut
import Derived.Handy
import Derived.Laws.BitsAllLaws
import Derived.Deep.QuietTactic
import Derived.Deep.RegionHeld3
import Derived.Deep.MidRow
import Derived.Deep.Heap
import Derived.Laws.Rows
import Derived.Laws.Tables
import Derived.Deep.RegionWith
import Derived.ArgAppend
import Derived.Lib.AppendStr
import Derived.Lib.ConvBytes
import Derived.Deep.RegionLaw
import Derived.Deep.OwnRows
import Derived.Laws.CopyOwn
import Derived.Lib.AppendZeros
namespace Go.Proofs.Ytopabadnbelegaa.D
open Go.RowKit Go.Lib
theorem mRight (x n : Nat) (w : World) (hx : x < 4294967296) (hn : n < 32) (hn0 : 0 < n) :
    Calls Try.prog 71 #[.int .u32 x, .int .i64 n] w fun e w' => e = .returned (.int .u32 (Sha.rot x n : Nat)) ∧ ∃ k, w' = w.drewN k := by
  have hr := rot_int x n hx
  obtain ⟨m, hm⟩ : ∃ m, m = 32 - n := ⟨_, rfl⟩
  have hw : IntKind.i64.wrap (32 - (n : Int)) = (m : Int) := by rw [IntKind.wrap_i64]; omega
  rw [← hm, ← IntKind.wrap_u32] at hr
  have hm32 : m < 32 := by omega
  clear hm
  go_enter Try.func71, Try.ntmps71
  go_wp2
  go_quiet (fail)
  go_wp2
  go_ret
  exact ⟨rfl, _, rfl⟩
set_option maxRecDepth 100000 in
set_option maxHeartbeats 800000 in
theorem mCubes (w : World) : Calls Try.prog 69 #[] w fun e w' => e = .returned (.agg KV) ∧ Below w.heap.size w w' := by
  have hu := Try.underlying110
  go_enter Try.func69, Try.ntmps69
  go_wp2_with (first | (refine wpList_build rfl 110 _ rfl (by kernel_rfl) ?_) | (refine wpList_store_row rfl 110 (.tmp 0) (.tmp 1) rfl w.heap.size KV rfl (by kernel_rfl) 110 Z64 (by first | exact heap_alloc_new _ _ | kernel_rfl) infoW rfl KV_is.one ?_))
  refine bodyPost_ret (results_cell_row rfl _ _ w.heap.size 110 KV (0, 0) _ rfl (heapRow_same (heap_alloc_new _ _) KV) hu rfl infoW) rfl ?_
  exact ⟨rfl, belowRow ((Below.refl _ _).alloc (Nat.le_refl _) _) (Nat.le_refl _) _⟩
theorem mStart (w : World) : Calls Try.prog 50 #[] w fun e w' => e = .returned (.agg (St8 Sha.start)) ∧ Below w.heap.size w w' := by
  rw [St8_start]
  have hu := Try.underlying90
  go_enter Try.func50, Try.ntmps50
  go_wp2
  refine bodyPost_ret (results_cell_row rfl _ _ w.heap.size 90 _ (0, 0) _ rfl (heap_alloc_new _ _) hu rfl info8) rfl ?_
  exact ⟨rfl, ((Below.refl _ _).alloc (Nat.le_refl _) _)⟩
theorem Rw.start2 (f : Nat → Nat) (w : World) (A B : Array Value) (hA : A.size = 64) (hB : B.size = 64) :
    Rw f w ((w.alloc (.cells A 110)).alloc (.cells B 110)) (w.heap.size + 1) 0 B ∧ ∃ zs : Array Value, zs.size = 64 ∧ ((w.alloc (.cells A 110)).alloc (.cells B 110)).heap[w.heap.size]? = some (.cells zs 110 (0, 0)) := by
  refine ⟨⟨hB, fun j hj => absurd hj (Nat.not_lt_zero _), ?_, by omega, ((Below.refl _ _).alloc (Nat.le_refl _) _).alloc (by simp) _⟩, A, hA, ?_⟩
  · have := heap_alloc_new (w.alloc (.cells A 110)) (.cells B 110)
    simpa using this
  · rw [Deep.blk_alloc_lt _ _ _ (by simp)]
    exact heap_alloc_new _ _
/-- the new row is the old one, or a new one -/
def NewRow (w : World) (v v' : Value) : Prop := v'.ownBlock = v.ownBlock ∨ ∃ g, v'.ownBlock = some g ∧ w.heap.size ≤ g

theorem run_append_own' {P : Program} (w : World) (base : Nat) (t ty e : TypeId) (i : TypeInfo) (z : Value) (size bytes : Nat) (ht : P.underlying t = some (.slice e)) (hi : P.info? e = some i) (hz : i.zero = some z)
    (hsize : i.size = size) (hby : i.bytes = bytes) (hzs : z.cells.size = size) (hsz : 0 < size)
    (v : Value) (n : Nat) (xs : List Value) (hown : w.ownsRow base e size v n xs)
    (a : Addr) (m c : Nat) (news : List Value) (hl : news.length = m * size) (hnews : ∀ j u, news[j]? = some u → w.cell? (a.add j) = some u) (h1 : ∀ u ∈ news, u.oneCell' = true)
    (h63 : n + m ≤ maxLen) (hbytes : (n + m) * bytes ≤ 140737488355328) (hbase : base ≤ w.heap.size) :
    ∃ v' w', (Builtin.append_ #[t, t] ty #[v, .slice (some a) m c]).run P w = .ok v' w' ∧ w'.ownsRow base e size v' (n + m) (xs ++ news) ∧ w.grownBy w' v.ownBlock ∧ NewRow w v v' := by
  obtain ⟨v', w', hr, h2, h3, h4⟩ := run_append_own (P := P) w base t ty e i z size bytes ht hi hz hsize hby hzs hsz v n xs hown a m c news hl hnews h1 h63 hbytes hbase
  refine ⟨v', w', hr, h2, h3, ?_⟩
  have fresh : ∀ {w2 : World}, w2.ownsRow w.heap.size e size v' (n + m) (xs ++ news) → NewRow w v v' ∨ v' = .slice none 0 0 := by
    intro w2 h
    rcases h.2 with ⟨h, _⟩ | ⟨g, cap, cur, h, hb, _⟩
    · exact .inr h
    · exact .inl (.inr ⟨g, by rw [h]; rfl, hb⟩)
  have bare : v' = .slice none 0 0 → NewRow w v v' := fun h => .inl (by rw [h, (h4.1 h).1])
  rcases hown.2 with ⟨hv, hn⟩ | ⟨g, cap, cur, hv, hb, hg, hnc, hcm, hcs, htake⟩
  · subst hn
    have ho' : w.ownsRow w.heap.size e size v 0 xs := ⟨hown.1, .inl ⟨hv, rfl⟩⟩
    obtain ⟨v2, w2, hr', k2, _, _⟩ := run_append_own (P := P) w w.heap.size t ty e i z size bytes ht hi hz hsize hby hzs hsz v 0 xs ho' a m c news hl hnews h1 h63 hbytes (Nat.le_refl _)
    rw [hr] at hr'
    cases hr'
    exact (fresh k2).elim id bare
  · by_cases hroom : n + m ≤ cap
    · obtain ⟨w2, hr', k2, _⟩ := run_append_fits (P := P) w base t ty e i size ht hi hsize g n cap xs (hv ▸ hown) a m c news hl hnews h1 hroom
      rw [← hv, hr] at hr'
      cases hr'
      exact .inl (by rw [hv]; rfl)
    · obtain ⟨v2, w2, hr', k2, _⟩ := run_append_arg_grows (P := P) w t ty e i z size bytes ht hi hz hsize hby hzs hsz ⟨g, 0, none⟩ n cap xs hown.1 (hown.cells (by rw [hv]; rfl)) a m c news hl hnews (by omega) h63 hbytes
      rw [← hv, hr] at hr'
      cases hr'
      exact (fresh k2).elim id bare

theorem wpList_put {P : Program} (w : World) {ops : Array Oper} {rest : List Oper} {o : Oper} {a : Act} {Q : Exit → Act → World → Prop} (hgd : o.guard = none) (s x : Operand) (t : TypeId)
    (ho : o.op = .call { callee := .builtin .append, args := #[s, x], argTypes := #[t, t] })
    (base : Nat) (e : TypeId) (i : TypeInfo) (z : Value) (size bytes : Nat) (ht : P.underlying t = some (.slice e)) (hi : P.info? e = some i) (hz : i.zero = some z)
    (hsize : i.size = size) (hby : i.bytes = bytes) (hzs : z.cells.size = size) (hsz : 0 < size)
    (v : Value) (n : Nat) (xs : List Value) (hs : a.eval s = v) (hown : w.ownsRow base e size v n xs)
    (ad : Addr) (m c : Nat) (news : List Value) (hx : a.eval x = .slice (some ad) m c) (hl : news.length = m * size) (hnews : ∀ j u, news[j]? = some u → w.cell? (ad.add j) = some u) (h1 : ∀ u ∈ news, u.oneCell' = true)
    (h63 : n + m ≤ maxLen) (hbytes : (n + m) * bytes ≤ 140737488355328) (hbase : base ≤ w.heap.size)
    (h : ∀ v' w', w'.ownsRow base e size v' (n + m) (xs ++ news) → w.grownBy w' v.ownBlock → NewRow w v v' → wpList P ops Q rest (a.put o.dst v') w') : wpList P ops Q (o :: rest) a w := by
  refine wpList_plain hgd fun K hK => ?_
  obtain ⟨v', w', hr, h2, h3, h4⟩ := run_append_own' (P := P) w base t o.type e i z size bytes ht hi hz hsize hby hzs hsz v n xs hown ad m c news hl hnews h1 h63 hbytes hbase
  unfold Oper.wp execOp
  simp only [ho, resolve, invoke, builtin, Sem.run_bind, Sem.run_pure, Result.andThen_ok, List.map_toArray, List.map_cons, List.map_nil, hs, hx, hr]
  exact hK _ _ (h v' w' h2 h3 h4)

theorem bc_append (a b : List UInt8) : Lib.byteCells (a ++ b) = Lib.byteCells a ++ Lib.byteCells b := by simp [Lib.byteCells]
theorem owns_shape {w : World} {base : Nat} {e : TypeId} {size : Nat} {v : Value} {n : Nat} {xs : List Value} (h : w.ownsRow base e size v n xs) : ∃ ao cap, v = .slice ao n cap := by
  rcases h.2 with ⟨hv, rfl⟩ | ⟨g, cap, cur, hv, _⟩
  · exact ⟨none, 0, hv⟩
  · exact ⟨some ⟨g, 0, none⟩, cap, hv⟩
theorem OwnB.grow {w wr w1 u : World} {v v' : Value} {bs news : List UInt8} {xs : List Value} (h : OwnB w wr v bs) (hb : Below w.heap.size w u) (hx : xs = Lib.byteCells news) (ho : w1.ownsRow w.heap.size 5 1 v' (bs.length + news.length) (Lib.byteCells bs ++ xs)) (hg : u.grownBy w1 v.ownBlock) : OwnB w w1 v' (bs ++ news) := by
  subst hx
  refine ⟨by rw [bc_append, List.length_append]; exact ho, ?_⟩
  obtain ⟨g1, g2, g3, g4, g5⟩ := hg
  refine ⟨g1.trans hb.os, g2.trans hb.tape, g3.trans hb.output, Nat.le_trans hb.size g4, fun k hk => ?_⟩
  rw [← hb.block k hk]
  refine g5 k (Nat.lt_of_lt_of_le hk hb.size) fun e => ?_
  have := h.block e.symm
  omega
def slen : Value → Nat
  | .slice _ n _ => n
  | _ => 0
theorem ownB_lit (w : World) (b : UInt8) : OwnB w (w.alloc (.cells #[.int .u8 b.toNat] 5)) (.slice (some ⟨w.heap.size, 0, none⟩) 1 1) [b] :=
  ⟨⟨rfl, .inr ⟨w.heap.size, 1, _, rfl, Nat.le_refl _, heap_alloc_new _ _, Nat.le_refl _, by unfold maxLen; decide, rfl, rfl⟩⟩, (Below.refl _ _).alloc (Nat.le_refl _) _⟩
set_option maxRecDepth 100000 in
set_option maxHeartbeats 1000000 in
theorem mFill (n : Nat) (w : World) (hn : n < 18446744073709551616) :
    Calls Try.prog 49 #[.int .u64 n] w fun e w' => ∃ v, e = .returned v ∧ OwnB w w' v (Sha.fill n) := by
  obtain ⟨i0, hi, hz0, hz1, hz2⟩ := info_parts infoU8
  obtain ⟨r, hr⟩ : ∃ r, r = n % 64 := ⟨_, rfl⟩
  have hrn : (n : Int) % 64 = (r : Int) := by omega
  have hr64 : r < 64 := by omega
  obtain ⟨B, hB⟩ : ∃ B, B = 8 * n % 18446744073709551616 := ⟨_, rfl⟩
  have hBi : 8 * (n : Int) % 18446744073709551616 = (B : Int) := by omega
  have hBw : IntKind.u64.wrap (8 * (n : Int)) = (B : Int) := by rw [IntKind.wrap_u64]; exact hBi
  have hBl : B < 18446744073709551616 := by omega
  have HF : Hid (Sha.fill n = 128 :: (List.replicate ((119 - r) % 64) 0 ++ Sha.be8 B)) := by
    show Sha.fill n = _
    rw [Sha.fill, ← hr, ← hB]
  clear hr hB
  go_enter Try.func49, Try.ntmps49
  go_wp2
  go_loopw [3] (fun y wr => ∃ (k : Nat) (ao : Option Addr) (cap : Nat), k ≤ (119 - r) % 64 ∧ y = .slice ao (k + 1) cap ∧ Hid (OwnB w wr (.slice ao (k + 1) cap) (128 :: List.replicate k 0))) (fun y _ => 64 - slen y)
  case atStart => exact ⟨0, _, _, Nat.zero_le _, rfl, hide (ownB_lit w 128)⟩
  case round =>
    obtain ⟨k, ao, cap, hk, rfl, HI⟩ := hrel
    have HO : Hid (wr.ownsRow w.heap.size 5 1 (.slice ao (k + 1) cap) (k + 1) (Lib.byteCells (128 :: List.replicate k 0))) := by
      have := (unhide HI).1
      rw [List.length_cons, List.length_replicate] at this
      exact this
    by_cases hlt : k < (119 - r) % 64
    · have hb : (((r : Int) + ((k : Int) + 1) + 8) % 64 != 0) = true := by rw [bne_iff_ne]; omega
      have hk64 : k < 63 := by omega
      have HK := hide hlt
      clear hk hlt
      go_wp2_with (at_builtin; refine wpList_put _ rfl (.tmp 16) (.tmp 17) 81 rfl w.heap.size 5 i0 (.int .u8 0) 1 1 Try.underlying81 hi hz0 hz1 hz2 rfl (by decide) _ _ _ rfl ((unhide HO).alloc _) ⟨wr.heap.size, 0, none⟩ 1 1 [.int .u8 0] rfl rfl ?c1 ?c2 ?c3 ?c4 ?c5 ?_)
      case c1 => intro j u hj; match j, hj with | 0, hj => simp at hj; subst hj; simp [Addr.add]
      case c2 => intro u hu; simp at hu; subst hu; rfl
      case c3 => unfold maxLen; omega
      case c4 => omega
      case c5 => have := (unhide HI).2.size; simp; omega
      intro v' w1 hown' hg' _
      have HN := hide (OwnB.grow (news := [0]) (unhide HI) ((unhide HI).2.alloc (unhide HI).2.size _) (xs := [.int .u8 0]) rfl (by rw [List.length_cons, List.length_replicate]; exact hown') hg')
      obtain ⟨ao', cap', rfl⟩ := owns_shape hown'
      clear hown' hg'
      go_wp2
      go_roundw
      case rel =>
        have h := unhide HK
        refine ⟨k + 1, ao', cap', h, rfl, hide ?_⟩
        have e : (128 :: List.replicate (k + 1) 0 : List UInt8) = (128 :: List.replicate k 0) ++ [0] := by rw [List.replicate_succ']; rfl
        rw [e]
        exact unhide HN
      case measure => simp [slen]; omega
    · have hkz : k = (119 - r) % 64 := by omega
      have hb : (((r : Int) + ((k : Int) + 1) + 8) % 64 != 0) = false := by rw [bne_eq_false_iff_eq]; omega
      have hk64 : k < 64 := by omega
      rw [← hkz] at HF
      clear hk hlt hkz
      go_wp2
      go_loopw [3, 5] (fun y i wq => ∃ (m : Nat) (ao : Option Addr) (cap : Nat), m ≤ 8 ∧ i = .int .i64 m ∧ y = .slice ao (k + 1 + m) cap ∧ Hid (OwnB w wq (.slice ao (k + 1 + m) cap) (128 :: List.replicate k 0 ++ (Sha.be8 B).take m))) (fun _ i _ => 8 - (RowKit.intOf i).toNat)
      case atStart => exact ⟨0, ao, cap, Nat.zero_le _, rfl, rfl, hide (by simpa using unhide HI)⟩
      case round =>
        clear HI HO hb hrn hBi hBw
        obtain ⟨m, ao, cap, hm, rfl, rfl, HI⟩ := hrel
        have hlen : (128 :: List.replicate k 0 ++ (Sha.be8 B).take m).length = k + 1 + m := by
          rw [List.length_append, List.length_cons, List.length_replicate, List.length_take]
          have : (Sha.be8 B).length = 8 := rfl
          omega
        have HLN := hide hlen
        clear hlen
        by_cases hlt : m < 8
        · obtain ⟨p, hp⟩ : ∃ p, p = 56 - 8 * m := ⟨_, rfl⟩
          have hp1 : (56 : Int) - 8 * (m : Int) = (p : Int) := by omega
          have hp64 : p < 64 := by omega
          have HO : Hid (wr.ownsRow w.heap.size 5 1 (.slice ao (k + 1 + m) cap) (k + 1 + m) (Lib.byteCells (128 :: List.replicate k 0 ++ (Sha.be8 B).take m))) := by
            have := (unhide HI).1
            rw [unhide HLN] at this
            exact this
          have HV : Hid ((Sha.be8 B).take (m + 1) = (Sha.be8 B).take m ++ [UInt8.ofNat (B / 2 ^ p)]) := by
            show List.take _ _ = _
            have h8 := be8_at B m hlt
            have hl : m < (Sha.be8 B).length := hlt
            rw [List.take_succ_eq_append_getElem hl]
            rw [List.getElem?_eq_getElem hl] at h8
            rw [Option.some.inj h8, show 256 ^ (7 - m) = 2 ^ p from by rw [hp, show 56 - 8 * m = 8 * (7 - m) from by omega, Nat.pow_mul]]
          have hmi : (m : Int) < 8 := by omega
          have HVV : Hid ((B : Int) / 2 ^ p % 256 = ((UInt8.ofNat (B / 2 ^ p)).toNat : Int)) := by
            show (B : Int) / 2 ^ p % 256 = _
            rw [div_int]
            generalize B / 2 ^ p = q
            simp
          clear hp
          go_wp2_with (at_builtin; refine wpList_put _ rfl (.tmp 25) (.tmp 32) 81 rfl w.heap.size 5 i0 (.int .u8 0) 1 1 Try.underlying81 hi hz0 hz1 hz2 rfl (by decide) _ _ _ rfl ((unhide HO).alloc _) ⟨wr.heap.size, 0, none⟩ 1 1 [.int .u8 ((B : Int) / 2 ^ p % 256)] rfl rfl ?c1 ?c2 ?c3 ?c4 ?c5 ?_)
          case c1 => intro j u hj; match j, hj with | 0, hj => simp at hj; subst hj; simp [Addr.add]
          case c2 => intro u hu; simp at hu; subst hu; rfl
          case c3 => unfold maxLen; omega
          case c4 => omega
          case c5 => have := (unhide HI).2.size; simp; omega
          intro v' w1 hown' hg' _
          have HN := hide (OwnB.grow (news := [UInt8.ofNat (B / 2 ^ p)]) (unhide HI) ((unhide HI).2.alloc (unhide HI).2.size _) (xs := [.int .u8 ((B : Int) / 2 ^ p % 256)]) (by rw [show (B : Int) / 2 ^ p % 256 = _ from unhide HVV]; rfl) (by rw [unhide HLN]; exact hown') hg')
          obtain ⟨ao', cap', rfl⟩ := owns_shape hown'
          clear hown' hg'
          go_wp2
          go_roundw
          case rel =>
            refine ⟨m + 1, ao', cap', by omega, by go_num, rfl, hide ?_⟩
            rw [show (Sha.be8 B).take (m + 1) = _ from unhide HV, ← List.append_assoc]
            exact unhide HN
          case measure => simp [RowKit.intOf]; omega
        · have hm8 : m = 8 := by omega
          subst hm8
          go_wp2
          go_ret
          refine ⟨_, rfl, ?_⟩
          rw [show Sha.fill n = _ from unhide HF]
          have := unhide HI
          rw [show (Sha.be8 B).take 8 = Sha.be8 B from rfl] at this
          exact this
/-- a row of bytes, new since w -/
structure BR (w u : World) (g cap : Nat) (bs : List UInt8) : Prop where
  row : ∃ cur fr, u.heap[g]? = some (.cells cur 5 fr) ∧ cur.size = cap ∧ cur.toList.take bs.length = Lib.byteCells bs ∧ ∀ j, j < cap → u.frozen? ⟨g, j, none⟩ = false
  ge : w.heap.size ≤ g
  le : bs.length ≤ cap
  max : cap ≤ maxLen
  bel : Below w.heap.size w u
theorem BR.lt {w u : World} {g cap : Nat} {bs : List UInt8} (h : BR w u g cap bs) : g < u.heap.size := by
  obtain ⟨cur, fr, h1, _⟩ := h.row
  exact (Array.getElem?_eq_some_iff.1 h1).1
theorem BR.cell {w u : World} {g cap : Nat} {bs : List UInt8} (h : BR w u g cap bs) (j : Nat) (hj : j < bs.length) : u.cell? ⟨g, j, none⟩ = some (.int .u8 (bs[j].toNat : Int)) := by
  obtain ⟨cur, fr, h1, h2, h3, _⟩ := h.row
  have h4 : (cur.toList.take bs.length)[j]? = some (.int .u8 (bs[j].toNat : Int)) := by rw [h3, byteCells_at bs j hj]
  rw [List.getElem?_take_of_lt hj, Array.getElem?_toList] at h4
  simp only [World.cell?, h1]
  exact h4
theorem frozen_of_block {u u' : World} {g j : Nat} (e : u'.heap[g]? = u.heap[g]?) : u'.frozen? ⟨g, j, none⟩ = u.frozen? ⟨g, j, none⟩ := by simp [World.frozen?, e]
theorem BR.keep {w u u' : World} {g cap : Nat} {bs : List UInt8} (h : BR w u g cap bs) (e : u'.heap[g]? = u.heap[g]?) (hb : Below w.heap.size w u') : BR w u' g cap bs := by
  obtain ⟨cur, fr, h1, h2, h3, h4⟩ := h.row
  exact ⟨⟨cur, fr, e.trans h1, h2, h3, fun j hj => (frozen_of_block e).trans (h4 j hj)⟩, h.ge, h.le, h.max, hb⟩
theorem BR.below {w u u' : World} {g cap : Nat} {bs : List UInt8} (h : BR w u g cap bs) (hb : Below u.heap.size u u') : BR w u' g cap bs := h.keep (hb.block g h.lt) (h.bel.trans (hb.mono h.bel.size))
theorem BR.alloc {w u : World} {g cap : Nat} {bs : List UInt8} (h : BR w u g cap bs) (o : Obj) : BR w (u.alloc o) g cap bs := h.below ((Below.refl _ _).alloc (Nat.le_refl _) _)
theorem BR.own {w u u' : World} {v : Value} {n : Nat} {bs : List UInt8} (h : u'.ownsRow u.heap.size 5 1 v n (Lib.byteCells bs)) (hn : n = bs.length) (h0 : 0 < bs.length) (hw : w.heap.size ≤ u.heap.size) (hb : Below w.heap.size w u') : ∃ g cap, v = .slice (some ⟨g, 0, none⟩) bs.length cap ∧ u.heap.size ≤ g ∧ BR w u' g cap bs := by
  subst hn
  rcases h.2 with ⟨_, h1⟩ | ⟨g, cap, cur, hv, hge, hg, hn, hm, hs, ht⟩
  · omega
  · refine ⟨g, cap, hv, hge, ⟨cur, (0, 0), hg, by omega, by simpa using ht, fun j _ => by simp [World.frozen?, hg]⟩, by omega, hn, hm, hb⟩
theorem BR.append {w u : World} {g cap : Nat} {bs : List UInt8} (h : BR w u g cap bs) (ty : TypeId) (ad : Addr) (c m : Nat) (q : List UInt8) (hm : m = q.length) (h0 : 0 < q.length)
    (hsrc : ∀ (j : Nat) (hj : j < q.length), u.cell? (ad.add j) = some (.int .u8 (q[j].toNat : Int))) (hby : bs.length + q.length ≤ 140737488355328) :
    ∃ g' cap' u', (Builtin.append_ #[81, 81] ty #[.slice (some ⟨g, 0, none⟩) bs.length cap, .slice (some ad) m c]).run Try.prog u = .ok (.slice (some ⟨g', 0, none⟩) (bs.length + q.length) cap') u' ∧ BR w u' g' cap' (bs ++ q) ∧ U1 u u' g ∧ (g' = g ∨ u.heap.size ≤ g') := by
  subst hm
  obtain ⟨i0, hi, hz0, hz1, hz2⟩ := info_parts infoU8
  have hnews : ∀ j x, (Lib.byteCells q)[j]? = some x → u.cell? (ad.add j) = some x := by
    intro j x hx
    have hj : j < q.length := by have := (List.getElem?_eq_some_iff.1 hx).1; rwa [byteCells_len] at this
    rw [byteCells_at q j hj] at hx
    rw [hsrc j hj, hx]
  obtain ⟨cur, fr, h1, h2, h3, h4⟩ := h.row
  have hle := h.le
  by_cases hroom : bs.length + q.length ≤ cap
  · have hr := run_append_room_cells (P := Try.prog) u 81 ty 5 i0 Try.underlying81 hi g 0 bs.length cap ad q.length c (Lib.byteCells q) (by rw [byteCells_len, hz1, Nat.mul_one]) hnews (byteCells_one q) hroom
      (fun j hj => by
        rw [byteCells_len] at hj
        have : bs.length + j < cur.size := by omega
        simp [World.cell?, h1, hz1, this]) (fun j hj => by rw [byteCells_len] at hj; rw [hz1]; simpa using h4 (bs.length + j) (by omega))
    rw [hz1, Nat.mul_one, Nat.zero_add] at hr
    have hcl0 : cur.toList.length = cap := (Array.length_toList).trans h2
    have hcl : bs.length + (Lib.byteCells q).length ≤ cur.toList.length := by rw [byteCells_len, hcl0]; exact hroom
    have h1' : u.heap[g]? = some (.cells cur.toList.toArray 5 fr) := by simpa using h1
    have hrow := heap_setCells (Lib.byteCells q) bs.length u cur.toList h1' hcl
    have hu : U1 u (u.setCells g bs.length (Lib.byteCells q)) g := U1.cells _ _ _ (U1.refl _ _)
    refine ⟨g, cap, _, hr, ⟨⟨_, fr, hrow, ?_, ?_, ?_⟩, h.ge, by simpa using hroom, h.max, h.bel.trans (hu.toBelow h.bel.size h.ge)⟩, hu, .inl rfl⟩
    · rw [List.size_toArray, splice_len _ _ _ hcl, hcl0]
    · have ht := splice_take cur.toList bs.length (Lib.byteCells q) hcl
      rw [byteCells_len] at ht
      rw [List.length_append, ht, h3]
      simp [Lib.byteCells]
    · intro j hj
      rw [World.frozen?_setCells]
      exact h4 j hj
  · obtain ⟨v', u', hr, ho, hgr⟩ := run_append_arg_grows (P := Try.prog) u 81 ty 5 i0 (.int .u8 0) 1 1 Try.underlying81 hi hz0 hz1 hz2 rfl (by decide) ⟨g, 0, none⟩ bs.length cap (Lib.byteCells bs) (by rw [byteCells_len, Nat.mul_one])
      (fun j x hx => by
        have hj : j < bs.length := by have := (List.getElem?_eq_some_iff.1 hx).1; rwa [byteCells_len] at this
        rw [byteCells_at bs j hj] at hx
        rw [Addr.add_mid, Nat.zero_add, h.cell j hj, hx]) ad q.length c (Lib.byteCells q) (by rw [byteCells_len, Nat.mul_one]) hnews (by omega) (by simp only [maxLen]; omega) (by omega)
    obtain ⟨g1, g2, g3, g4, g5⟩ := hgr
    have hbel : Below u.heap.size u u' := ⟨g1, g2, g3, g4, fun k hk => g5 k hk (by simp)⟩
    have ho' : u'.ownsRow u.heap.size 5 1 v' (bs.length + q.length) (Lib.byteCells (bs ++ q)) := by rw [show Lib.byteCells (bs ++ q) = Lib.byteCells bs ++ Lib.byteCells q from by simp [Lib.byteCells]]; exact ho
    obtain ⟨g', cap', rfl, hge, hbr⟩ := BR.own (w := w) ho' (by simp) (by simp; omega) h.bel.size (h.bel.trans (hbel.mono h.bel.size))
    rw [List.length_append] at hr
    exact ⟨g', cap', u', hr, hbr, U1.below' hbel, .inr hge⟩
/-- the bytes of a text, in new memory -/
theorem conv_br (w : World) (s : ByteArray) (hs : s.size ≤ 140737488355328) : ∃ g cap u, (convert 9 81 (.string s)).run Try.prog w = .ok (.slice (some ⟨g, 0, none⟩) s.size cap) u ∧ BR w u g cap s.data.toList := by
  refine ⟨_, _, _, Lib.run_convert_string_bytes w 9 81 5 s Try.underlying9 Try.underlying81 Try.underlying5, ?_⟩
  have hge := grownCap_ge w s.size 0 5
  have hle := grownCap_le_maxLen w s.size 0 5 (by simp only [maxLen]; omega)
  have hl := list_size s
  have hnew := Lib.bytesWorld_at_new w 5 s
  have hsz : (Lib.bytesCells w 5 s).size = grownCap w s.size 0 5 := by
    simp only [Lib.bytesCells, Array.size_append, Array.size_map, Array.size_replicate]
    have : s.data.size = s.size := rfl
    omega
  refine ⟨⟨_, _, hnew, hsz, ?_, ?_⟩, Nat.le_refl _, by omega, hle, ⟨rfl, rfl, rfl, by rw [Lib.bytesWorld_size]; omega, fun k hk => Lib.bytesWorld_at_old w _ s k hk⟩⟩
  · simp only [Lib.bytesCells, Array.toList_append, Array.toList_map]
    rw [List.take_append_of_le_length (by simp), List.take_of_length_le (by simp)]
    rfl
  · intro j hj
    simp only [World.frozen?, hnew]
    rw [hsz]
    simp
    omega
theorem keepc {w : World} {r a k n : Nat} {v y : Value} (h : w.cell? ⟨r, a, none⟩ = some y) (hne : ¬ (k = a)) : ((w.drewN n).setCell ⟨r, k, none⟩ v).cell? ⟨r, a, none⟩ = some y := by
  rw [World.cell?_setCell_other _ _ _ _ (fun e => hne (by cases e; rfl))]
  exact h
set_option maxRecDepth 100000 in
set_option maxHeartbeats 1000000 in
theorem mWords (b : Nat → Nat) (hb : ∀ j, b j < 256) (g off cap : Nat) (w : World) (hg : g < w.heap.size) (hc : ∀ j, j < 64 → w.cell? ⟨g, off + j, none⟩ = some (.int .u8 (b j : Nat))) :
    Calls Try.prog 70 #[.slice (some ⟨g, off, none⟩) 64 cap] w fun e w' => (∃ cs, e = .returned (.agg cs) ∧ Is32 cs 64 (Sha.wd b)) ∧ Below w.heap.size w w' := by
  have HC := hide hc
  have HB := hide hb
  clear hc hb
  go_enter Try.func70, Try.ntmps70
  go_wp2
  go_loopw [4] (fun i wr => ∃ k : Nat, ∃ ts : Array Value, k ≤ 64 ∧ i = .int .i64 k ∧ Hid (Rw (Sha.wd b) w wr (w.heap.size + 1) k ts) ∧ Hid (∃ zs : Array Value, zs.size = 64 ∧ wr.heap[w.heap.size]? = some (.cells zs 110 (0, 0)))) (fun i _ => 64 - (RowKit.intOf i).toNat)
  case atStart =>
    exact ⟨0, _, Nat.zero_le _, rfl, hide (Rw.start2 (Sha.wd b) w _ _ rfl rfl).1, hide (Rw.start2 (Sha.wd b) w _ _ rfl rfl).2⟩
  case round =>
    obtain ⟨k, ts, hk, rfl, HI, HZ⟩ := hrel
    by_cases hlt : k < 64
    · by_cases h16 : k < 16
      · obtain ⟨j0, hj0⟩ : ∃ j, j = 4 * k := ⟨_, rfl⟩
        obtain ⟨j1, hj1⟩ : ∃ j, j = 4 * k + 1 := ⟨_, rfl⟩
        obtain ⟨j2, hj2⟩ : ∃ j, j = 4 * k + 2 := ⟨_, rfl⟩
        obtain ⟨j3, hj3⟩ : ∃ j, j = 4 * k + 3 := ⟨_, rfl⟩
        have e0 : IntKind.i64.wrap (4 * (k : Int)) = (j0 : Int) := by rw [IntKind.wrap_i64]; omega
        have e1 : IntKind.i64.wrap ((j0 : Int) + 1) = (j1 : Int) := by rw [IntKind.wrap_i64]; omega
        have e2 : IntKind.i64.wrap ((j0 : Int) + 2) = (j2 : Int) := by rw [IntKind.wrap_i64]; omega
        have e3 : IntKind.i64.wrap ((j0 : Int) + 3) = (j3 : Int) := by rw [IntKind.wrap_i64]; omega
        have hq0 : (j0 : Int) < 64 := by omega
        have hq1 : (j1 : Int) < 64 := by omega
        have hq2 : (j2 : Int) < 64 := by omega
        have hq3 : (j3 : Int) < 64 := by omega
        have c0 : wr.cell? ⟨g, off + j0, none⟩ = some (.int .u8 (b j0 : Nat)) := ((unhide HI).bel.cell (p := ⟨g, off + j0, none⟩) hg).trans (unhide HC j0 (by omega))
        have c1 : wr.cell? ⟨g, off + j1, none⟩ = some (.int .u8 (b j1 : Nat)) := ((unhide HI).bel.cell (p := ⟨g, off + j1, none⟩) hg).trans (unhide HC j1 (by omega))
        have c2 : wr.cell? ⟨g, off + j2, none⟩ = some (.int .u8 (b j2 : Nat)) := ((unhide HI).bel.cell (p := ⟨g, off + j2, none⟩) hg).trans (unhide HC j2 (by omega))
        have c3 : wr.cell? ⟨g, off + j3, none⟩ = some (.int .u8 (b j3 : Nat)) := ((unhide HI).bel.cell (p := ⟨g, off + j3, none⟩) hg).trans (unhide HC j3 (by omega))
        have hV : Sha.wd b k = b j0 * 16777216 + b j1 * 65536 + b j2 * 256 + b j3 := by rw [Sha.wd_first b k h16, Sha.be, hj0, hj1, hj2, hj3]
        obtain ⟨v0, hv0⟩ := (unhide HI).cell' hlt
        have hfz := (unhide HI).frozen k
        have HV := hide hV
        have HB4 : Hid (b j0 < 256 ∧ b j1 < 256 ∧ b j2 < 256 ∧ b j3 < 256) := ⟨unhide HB _, unhide HB _, unhide HB _, unhide HB _⟩
        clear hj0 hj1 hj2 hj3 hV
        generalize b j0 = x0 at *
        generalize b j1 = x1 at *
        generalize b j2 = x2 at *
        generalize b j3 = x3 at *
        have hne : g ≠ w.heap.size + 1 := by omega
        have hne' : ¬ (w.heap.size + 1 = g) := by omega
        go_wp2
        go_region_held3 (fun u => u.cell? ⟨g, off + j0, none⟩ = some (.int .u8 x0) ∧ u.cell? ⟨g, off + j1, none⟩ = some (.int .u8 x1) ∧ u.cell? ⟨g, off + j2, none⟩ = some (.int .u8 x2) ∧ u.cell? ⟨g, off + j3, none⟩ = some (.int .u8 x3)) (first | (go_keep; done)) (fail)
        go_wp2
        go_roundw
        case rel =>
          refine ⟨k + 1, _, by omega, by go_num, hide ((unhide HI).next _ ?_ hlt _), ?_⟩
          · obtain ⟨h0, h1, h2, h3⟩ := unhide HB4
            rw [unhide HV]
            congr 1
            try simp only [IntKind.wrap_u32]
            omega
          · obtain ⟨zs, hz1, hz2⟩ := unhide HZ
            refine hide ⟨zs, hz1, ?_⟩
            show (World.setCell _ _ _).heap[_]? = _
            rw [Deep.blk_setCell_other _ _ _ _ (by simp)]
            exact hz2
        case measure => simp [RowKit.intOf]; omega
      · obtain ⟨a16, ha16⟩ : ∃ j, j = k - 16 := ⟨_, rfl⟩
        obtain ⟨a15, ha15⟩ : ∃ j, j = k - 15 := ⟨_, rfl⟩
        obtain ⟨a7, ha7⟩ : ∃ j, j = k - 7 := ⟨_, rfl⟩
        obtain ⟨a2, ha2⟩ : ∃ j, j = k - 2 := ⟨_, rfl⟩
        have p15 : (k : Int) - 15 = (a15 : Int) := by omega
        have p2 : (k : Int) - 2 = (a2 : Int) := by omega
        have p16 : (k : Int) - 16 = (a16 : Int) := by omega
        have p7 : (k : Int) - 7 = (a7 : Int) := by omega
        have r16 : IntKind.i64.wrap (a16 : Int) = (a16 : Int) := by rw [IntKind.wrap_i64]; omega
        have r7 : IntKind.i64.wrap (a7 : Int) = (a7 : Int) := by rw [IntKind.wrap_i64]; omega
        have hq16 : (a16 : Int) < 64 := by omega
        have hq15 : (a15 : Int) < 64 := by omega
        have hq7 : (a7 : Int) < 64 := by omega
        have hq2 : (a2 : Int) < 64 := by omega
        have c16 := (unhide HI).cell (j := a16) (by omega)
        have c15 := (unhide HI).cell (j := a15) (by omega)
        have c7 := (unhide HI).cell (j := a7) (by omega)
        have c2 := (unhide HI).cell (j := a2) (by omega)
        have n16 : ¬ (k = a16) := by omega
        have n7 : ¬ (k = a7) := by omega
        have n16' : ¬ (a16 = k) := by omega
        have n7' : ¬ (a7 = k) := by omega
        have hV : Sha.wd b k = (Sha.wd b a16 + Sha.s0 (Sha.wd b a15) + Sha.wd b a7 + Sha.s1 (Sha.wd b a2)) % 4294967296 := by rw [Sha.wd_next b k (by omega), ha16, ha15, ha7, ha2]
        have HV := hide hV
        have HL4 : Hid (Sha.wd b a16 < 4294967296 ∧ Sha.wd b a7 < 4294967296) := ⟨Sha.wd_lt b (unhide HB) _, Sha.wd_lt b (unhide HB) _⟩
        have hl15 := Sha.wd_lt b (unhide HB) a15
        have hl2 := Sha.wd_lt b (unhide HB) a2
        clear hV ha16 ha15 ha7 ha2
        generalize Sha.wd b a16 = y16 at *
        generalize Sha.wd b a15 = y15 at *
        generalize Sha.wd b a7 = y7 at *
        generalize Sha.wd b a2 = y2 at *
        obtain ⟨A, hA⟩ : ∃ A, A = Sha.rot y15 7 ^^^ Sha.rot y15 18 := ⟨_, rfl⟩
        obtain ⟨B, hB⟩ : ∃ A, A = Sha.rot y2 17 ^^^ Sha.rot y2 19 := ⟨_, rfl⟩
        obtain ⟨Z0, hZ0⟩ : ∃ A, A = Sha.s0 y15 := ⟨_, rfl⟩
        obtain ⟨Z1, hZ1⟩ : ∃ A, A = Sha.s1 y2 := ⟨_, rfl⟩
        have ea : bits .xor .u32 ((Sha.rot y15 7 : Nat) : Int) ((Sha.rot y15 18 : Nat) : Int) = (A : Int) := by rw [hA, x32 _ _ (Sha.rot_lt _ _ hl15) (Sha.rot_lt _ _ hl15)]
        have eb : bits .xor .u32 ((Sha.rot y2 17 : Nat) : Int) ((Sha.rot y2 19 : Nat) : Int) = (B : Int) := by rw [hB, x32 _ _ (Sha.rot_lt _ _ hl2) (Sha.rot_lt _ _ hl2)]
        have ec : bits .xor .u32 (A : Int) ((y15 : Int) / 8) = (Z0 : Int) := by
          rw [hZ0, hA, show (y15 : Int) / 8 = ((y15 / 8 : Nat) : Int) from by omega, x32 _ _ (xor_lt (Sha.rot_lt _ _ hl15) (Sha.rot_lt _ _ hl15)) (by omega)]; rfl
        have ed : bits .xor .u32 (B : Int) ((y2 : Int) / 1024) = (Z1 : Int) := by
          rw [hZ1, hB, show (y2 : Int) / 1024 = ((y2 / 1024 : Nat) : Int) from by omega, x32 _ _ (xor_lt (Sha.rot_lt _ _ hl2) (Sha.rot_lt _ _ hl2)) (by omega)]; rfl
        rw [← hZ0, ← hZ1] at HV
        have HZ0 : Hid (Z0 < 4294967296 ∧ Z1 < 4294967296) := by rw [hZ0, hZ1]; exact ⟨Sha.s0_lt hl15, Sha.s1_lt hl2⟩
        have M1 : Hid (∀ u, Calls Try.prog 71 #[.int .u32 y15, .int .i64 7] u fun e w' => e = .returned (.int .u32 (Sha.rot y15 7 : Nat)) ∧ ∃ k, w' = u.drewN k) := hide (fun u => mRight y15 7 u hl15 (by decide) (by decide))
        have M2 : Hid (∀ u, Calls Try.prog 71 #[.int .u32 y15, .int .i64 18] u fun e w' => e = .returned (.int .u32 (Sha.rot y15 18 : Nat)) ∧ ∃ k, w' = u.drewN k) := hide (fun u => mRight y15 18 u hl15 (by decide) (by decide))
        have M3 : Hid (∀ u, Calls Try.prog 71 #[.int .u32 y2, .int .i64 17] u fun e w' => e = .returned (.int .u32 (Sha.rot y2 17 : Nat)) ∧ ∃ k, w' = u.drewN k) := hide (fun u => mRight y2 17 u hl2 (by decide) (by decide))
        have M4 : Hid (∀ u, Calls Try.prog 71 #[.int .u32 y2, .int .i64 19] u fun e w' => e = .returned (.int .u32 (Sha.rot y2 19 : Nat)) ∧ ∃ k, w' = u.drewN k) := hide (fun u => mRight y2 19 u hl2 (by decide) (by decide))
        obtain ⟨v0, hv0⟩ := (unhide HI).cell' hlt
        have hfz := (unhide HI).frozen k
        clear hA hB hZ0 hZ1 hl15 hl2
        go_wp2
        go_region_held3 (fun u => u.cell? ⟨w.heap.size + 1, a16, none⟩ = some (.int .u32 y16) ∧ u.cell? ⟨w.heap.size + 1, a7, none⟩ = some (.int .u32 y7)) (first | (go_keep; done) | exact ⟨keepc c16 n16, keepc c7 n7⟩) (first | (go_at_call 71; first | (with_reducible refine (unhide M1 _).mono ?_; rintro e w1 ⟨rfl, n, rfl⟩) | (with_reducible refine (unhide M2 _).mono ?_; rintro e w1 ⟨rfl, n, rfl⟩) | (with_reducible refine (unhide M3 _).mono ?_; rintro e w1 ⟨rfl, n, rfl⟩) | (with_reducible refine (unhide M4 _).mono ?_; rintro e w1 ⟨rfl, n, rfl⟩)))
        go_wp2
        go_roundw
        case rel =>
          refine ⟨k + 1, _, by omega, by go_num, hide ((unhide HI).next _ ?_ hlt _), ?_⟩
          · rw [unhide HV]
            congr 1
            try simp only [IntKind.wrap_u32]
            have := unhide HL4
            have := unhide HZ0
            omega
          · obtain ⟨zs, hz1, hz2⟩ := unhide HZ
            refine hide ⟨zs, hz1, ?_⟩
            show (World.setCell _ _ _).heap[_]? = _
            rw [Deep.blk_setCell_other _ _ _ _ (by simp)]
            exact hz2
        case measure => simp [RowKit.intOf]; omega
    · have hkk : k = 64 := by omega
      subst hkk
      obtain ⟨zs, h3, h4⟩ := unhide HZ
      have h6 := (unhide HI).row
      have h1 := (unhide HI).size
      have hu := Try.underlying110
      have hi : (Try.prog.info? 110).map (·.size) = some ts.size := by rw [infoW, h1]
      go_wp2_with (first | (refine wpList_load_row rfl 110 (.tmp 3) rfl (w.heap.size + 1) rfl 110 ts (0, 0) _ h6 hu rfl hi ?_) | (refine wpList_store_row rfl 110 (.tmp 2) (.tmp 85) rfl w.heap.size ts rfl rfl 110 zs h4 hi (by rw [h3, h1]) (unhide HI).is.one ?_))
      refine bodyPost_ret (results_cell_row rfl _ _ w.heap.size 110 ts (0, 0) _ rfl (heapRow_same h4 ts) hu rfl hi) rfl ?_
      exact ⟨⟨ts, rfl, (unhide HI).is⟩, belowRow (unhide HI).bel (by omega) _⟩
theorem heapSetO {w : World} {r k g : Nat} {v : Value} {o : Obj} (h : w.heap[g]? = some o) (hne : g ≠ r) : (w.setCell ⟨r, k, none⟩ v).heap[g]? = some o := by
  rw [Deep.blk_setCell_other _ _ _ _ hne]; exact h
/-- what lies in memory, the table at m1 -/
structure My0 (s : Sha.St) (w u : World) (m1 : Nat) (z8 : Array Value) : Prop where
  st : u.heap[w.heap.size]? = some (.cells (St8 s) 90 (0, 0))
  res : u.heap[w.heap.size + 1]? = some (.cells z8 90 (0, 0))
  tab : ∀ i, i < 64 → u.cell? ⟨m1, i, none⟩ = some (.int .u32 (Sha.K.getD i 0 : Nat))
  bel : Below w.heap.size w u
  lt : m1 < u.heap.size
  le : w.heap.size + 2 ≤ u.heap.size
theorem My0.below {s : Sha.St} {w u u' : World} {m1 : Nat} {z8 : Array Value} (h : My0 s w u m1 z8) (hb : Below u.heap.size u u') : My0 s w u' m1 z8 :=
  ⟨(hb.block _ (by have := h.le; omega)).trans h.st, (hb.block _ (by have := h.le; omega)).trans h.res, fun i hi => (hb.cell (p := ⟨m1, i, none⟩) h.lt).trans (h.tab i hi), h.bel.trans (hb.mono h.bel.size), Nat.lt_of_lt_of_le h.lt hb.size, Nat.le_trans h.le hb.size⟩
theorem below_row (u : World) (A cs : Array Value) (t : TypeId) : Below u.heap.size u ((u.alloc (.cells A t)).setRow u.heap.size cs) := belowRow ((Below.refl _ _).alloc (Nat.le_refl _) _) (Nat.le_refl _) _
theorem row_cell (u : World) (A cs : Array Value) (t : TypeId) (f : Nat → Nat) (n : Nat) (h : Is32 cs n f) (i : Nat) (hi : i < n) : ((u.alloc (.cells A t)).setRow u.heap.size cs).cell? ⟨u.heap.size, i, none⟩ = some (.int .u32 (f i : Nat)) := by
  have := heapRow_same (heap_alloc_new u (.cells A t)) cs
  simp only [World.cell?, this]
  exact h.at' i hi
theorem My0.make (s : Sha.St) (w w1 : World) (z8 A : Array Value) (hb : Below ((w.alloc (.cells (St8 s) 90)).alloc (.cells z8 90)).heap.size ((w.alloc (.cells (St8 s) 90)).alloc (.cells z8 90)) w1) :
    My0 s w ((w1.alloc (.cells A 110)).setRow w1.heap.size KV) w1.heap.size z8 := by
  have hs : w.heap.size + 2 ≤ w1.heap.size := by have := hb.size; simp at this; omega
  have hb2 := below_row w1 A KV 110
  have h0 : ∀ k, k < w.heap.size + 2 → ((w1.alloc (.cells A 110)).setRow w1.heap.size KV).heap[k]? = ((w.alloc (.cells (St8 s) 90)).alloc (.cells z8 90)).heap[k]? := fun k hk => (hb2.block k (by omega)).trans (hb.block k (by simp; omega))
  have hbel0 : Below w.heap.size w ((w.alloc (.cells (St8 s) 90)).alloc (.cells z8 90)) := ((Below.refl _ _).alloc (Nat.le_refl _) _).alloc (by simp) _
  refine ⟨?_, ?_, fun i hi => row_cell w1 A KV 110 _ 64 KV_is i hi, (hbel0.trans (hb.mono (by simp; omega))).trans (hb2.mono (by omega)), ?_, ?_⟩
  · rw [h0 _ (by omega), Deep.blk_alloc_lt _ _ _ (by simp)]
    exact heap_alloc_new _ _
  · rw [h0 _ (by omega)]
    have := heap_alloc_new (w.alloc (.cells (St8 s) 90)) (.cells z8 90)
    simpa using this
  · have := hb2.size; simp
  · have := hb2.size; omega
/-- .. and the words at m2, the state at m3 -/
structure My (b : Nat → Nat) (s t : Sha.St) (w u : World) (m1 m2 m3 : Nat) (z8 : Array Value) : Prop where
  my : My0 s w u m1 z8
  wo : ∀ i, i < 64 → u.cell? ⟨m2, i, none⟩ = some (.int .u32 (Sha.wd b i : Nat))
  cur : u.heap[m3]? = some (.cells (St8 t) 90 (0, 0))
  n1 : m1 ≠ m3
  n2 : m2 ≠ m3
  le : w.heap.size + 2 ≤ m3
theorem My.drewN {b : Nat → Nat} {s t : Sha.St} {w u : World} {m1 m2 m3 : Nat} {z8 : Array Value} (h : My b s t w u m1 m2 m3 z8) (n : Nat) : My b s t w (u.drewN n) m1 m2 m3 z8 :=
  ⟨⟨h.my.st, h.my.res, h.my.tab, belowDrewN h.my.bel _, h.my.lt, h.my.le⟩, h.wo, h.cur, h.n1, h.n2, h.le⟩
theorem My.cell {b : Nat → Nat} {s t : Sha.St} {w u : World} {m1 m2 m3 : Nat} {z8 : Array Value} (h : My b s t w u m1 m2 m3 z8) (j : Nat) (hj : j < 8) : u.cell? ⟨m3, j, none⟩ = some (.int .u32 (fld t j : Nat)) := by
  simp [World.cell?, h.cur, St8_at t j hj]
theorem My.row {b : Nat → Nat} {s t t' : Sha.St} {w u : World} {m1 m2 m3 : Nat} {z8 : Array Value} (h : My b s t w u m1 m2 m3 z8) : My b s t' w (u.setRow m3 (St8 t')) m1 m2 m3 z8 := by
  have hle := h.le
  have ho : ∀ k, k ≠ m3 → (u.setRow m3 (St8 t')).heap[k]? = u.heap[k]? := fun k hk => heapRow_other u m3 k _ hk
  refine ⟨⟨(ho _ (by omega)).trans h.my.st, (ho _ (by omega)).trans h.my.res, fun i hi => ?_, belowRow h.my.bel (by omega) _, by simpa [World.setRow] using h.my.lt, by simpa [World.setRow] using h.my.le⟩, fun i hi => ?_, heapRow_same h.cur _, h.n1, h.n2, h.le⟩
  · exact (World.cell?_of_block (w := u) (a := ⟨m1, i, none⟩) (ho _ h.n1)).trans (h.my.tab i hi)
  · exact (World.cell?_of_block (w := u) (a := ⟨m2, i, none⟩) (ho _ h.n2)).trans (h.wo i hi)
theorem My.row' {b : Nat → Nat} {s t t' : Sha.St} {w u : World} {m1 m2 m3 : Nat} {z8 : Array Value} (h : My b s t w u m1 m2 m3 z8) (cs : Array Value) (hc : cs = St8 t') : My b s t' w (u.setRow m3 cs) m1 m2 m3 z8 := by rw [hc]; exact h.row
theorem arr8 {x1 x2 x3 x4 x5 x6 x7 x8 y1 y5 : Value} (h1 : x1 = y1) (h5 : x5 = y5) : (#[x1, x2, x3, x4, x5, x6, x7, x8] : Array Value) = #[y1, x2, x3, x4, y5, x6, x7, x8] := by rw [h1, h5]
theorem My.make {b : Nat → Nat} {s : Sha.St} {w u w2 : World} {m1 : Nat} {z8 : Array Value} (h : My0 s w u m1 z8) (hb : Below u.heap.size u w2) (A A' ws : Array Value) (hws : Is32 ws 64 (Sha.wd b)) :
    My b s s w ((((w2.alloc (.cells A 110)).setRow w2.heap.size ws).alloc (.cells A' 90)).setRow (w2.heap.size + 1) (St8 s)) m1 w2.heap.size (w2.heap.size + 1) z8 := by
  have k1 := below_row w2 A ws 110
  have k2 := below_row ((w2.alloc (.cells A 110)).setRow w2.heap.size ws) A' (St8 s) 90
  have e : ((w2.alloc (.cells A 110)).setRow w2.heap.size ws).heap.size = w2.heap.size + 1 := by simp [World.setRow]
  rw [e] at k2
  have h1 := h.below hb
  have h2 := h1.below (k1.trans (k2.mono (by omega)))
  refine ⟨h2, fun i hi => ?_, ?_, ?_, by omega, by have := h1.le; omega⟩
  · exact (k2.cell (p := ⟨w2.heap.size, i, none⟩) (by simp)).trans (row_cell w2 A ws 110 _ 64 hws i hi)
  · have := heap_alloc_new ((w2.alloc (.cells A 110)).setRow w2.heap.size ws) (.cells A' 90)
    rw [e] at this
    exact heapRow_same this _
  · have := h1.lt; omega
set_option maxRecDepth 100000 in
set_option maxHeartbeats 4000000 in
theorem mMade (b : Nat → Nat) (hb : ∀ j, b j < 256) (s : Sha.St) (hs : Ok s) (g off cap : Nat) (w : World) (hg : g < w.heap.size) (hc : ∀ j, j < 64 → w.cell? ⟨g, off + j, none⟩ = some (.int .u8 (b j : Nat))) :
    Calls Try.prog 51 #[.agg (St8 s), .slice (some ⟨g, off, none⟩) 64 cap] w fun e w' => e = .returned (.agg (St8 (Sha.add s (Sha.rnd b s 64)))) ∧ Below w.heap.size w w' := by
  have HS := hide hs
  have HB := hide hb
  have HC := hide hc
  clear hs hb hc
  have hu := Try.underlying90
  go_enter Try.func51, Try.ntmps51
  go_wp2_with fail
  refine (mCubes _).mono ?_
  rintro e w1 ⟨rfl, hbel⟩
  have HM0 := hide (My0.make s w w1 #[.int .u32 0, .int .u32 0, .int .u32 0, .int .u32 0, .int .u32 0, .int .u32 0, .int .u32 0, .int .u32 0] #[.int .u32 0, .int .u32 0, .int .u32 0, .int .u32 0, .int .u32 0, .int .u32 0, .int .u32 0, .int .u32 0, .int .u32 0, .int .u32 0, .int .u32 0, .int .u32 0, .int .u32 0, .int .u32 0, .int .u32 0, .int .u32 0, .int .u32 0, .int .u32 0, .int .u32 0, .int .u32 0, .int .u32 0, .int .u32 0, .int .u32 0, .int .u32 0, .int .u32 0, .int .u32 0, .int .u32 0, .int .u32 0, .int .u32 0, .int .u32 0, .int .u32 0, .int .u32 0, .int .u32 0, .int .u32 0, .int .u32 0, .int .u32 0, .int .u32 0, .int .u32 0, .int .u32 0, .int .u32 0, .int .u32 0, .int .u32 0, .int .u32 0, .int .u32 0, .int .u32 0, .int .u32 0, .int .u32 0, .int .u32 0, .int .u32 0, .int .u32 0, .int .u32 0, .int .u32 0, .int .u32 0, .int .u32 0, .int .u32 0, .int .u32 0, .int .u32 0, .int .u32 0, .int .u32 0, .int .u32 0, .int .u32 0, .int .u32 0, .int .u32 0, .int .u32 0] hbel)
  clear hbel
  go_wp2_with (first | (refine wpList_store_row rfl 110 (.tmp 5) (.tmp 18) rfl w1.heap.size KV rfl rfl 110 #[.int .u32 0, .int .u32 0, .int .u32 0, .int .u32 0, .int .u32 0, .int .u32 0, .int .u32 0, .int .u32 0, .int .u32 0, .int .u32 0, .int .u32 0, .int .u32 0, .int .u32 0, .int .u32 0, .int .u32 0, .int .u32 0, .int .u32 0, .int .u32 0, .int .u32 0, .int .u32 0, .int .u32 0, .int .u32 0, .int .u32 0, .int .u32 0, .int .u32 0, .int .u32 0, .int .u32 0, .int .u32 0, .int .u32 0, .int .u32 0, .int .u32 0, .int .u32 0, .int .u32 0, .int .u32 0, .int .u32 0, .int .u32 0, .int .u32 0, .int .u32 0, .int .u32 0, .int .u32 0, .int .u32 0, .int .u32 0, .int .u32 0, .int .u32 0, .int .u32 0, .int .u32 0, .int .u32 0, .int .u32 0, .int .u32 0, .int .u32 0, .int .u32 0, .int .u32 0, .int .u32 0, .int .u32 0, .int .u32 0, .int .u32 0, .int .u32 0, .int .u32 0, .int .u32 0, .int .u32 0, .int .u32 0, .int .u32 0, .int .u32 0, .int .u32 0] (heap_alloc_new _ _) infoW rfl KV_is.one ?_))
  generalize (w1.alloc (.cells #[.int .u32 0, .int .u32 0, .int .u32 0, .int .u32 0, .int .u32 0, .int .u32 0, .int .u32 0, .int .u32 0, .int .u32 0, .int .u32 0, .int .u32 0, .int .u32 0, .int .u32 0, .int .u32 0, .int .u32 0, .int .u32 0, .int .u32 0, .int .u32 0, .int .u32 0, .int .u32 0, .int .u32 0, .int .u32 0, .int .u32 0, .int .u32 0, .int .u32 0, .int .u32 0, .int .u32 0, .int .u32 0, .int .u32 0, .int .u32 0, .int .u32 0, .int .u32 0, .int .u32 0, .int .u32 0, .int .u32 0, .int .u32 0, .int .u32 0, .int .u32 0, .int .u32 0, .int .u32 0, .int .u32 0, .int .u32 0, .int .u32 0, .int .u32 0, .int .u32 0, .int .u32 0, .int .u32 0, .int .u32 0, .int .u32 0, .int .u32 0, .int .u32 0, .int .u32 0, .int .u32 0, .int .u32 0, .int .u32 0, .int .u32 0, .int .u32 0, .int .u32 0, .int .u32 0, .int .u32 0, .int .u32 0, .int .u32 0, .int .u32 0, .int .u32 0] 110)).setRow w1.heap.size KV = W1 at HM0 ⊢
  generalize w1.heap.size = m1 at HM0 ⊢
  refine (mWords b (unhide HB) g off cap W1 (Nat.lt_of_lt_of_le hg (unhide HM0).bel.size) (fun j hj => ((unhide HM0).bel.cell (p := ⟨g, off + j, none⟩) hg).trans (unhide HC j hj))).mono ?_
  rintro e w2 ⟨⟨ws, rfl, hws⟩, hbel⟩
  have HM := hide (My.make (unhide HM0) hbel #[.int .u32 0, .int .u32 0, .int .u32 0, .int .u32 0, .int .u32 0, .int .u32 0, .int .u32 0, .int .u32 0, .int .u32 0, .int .u32 0, .int .u32 0, .int .u32 0, .int .u32 0, .int .u32 0, .int .u32 0, .int .u32 0, .int .u32 0, .int .u32 0, .int .u32 0, .int .u32 0, .int .u32 0, .int .u32 0, .int .u32 0, .int .u32 0, .int .u32 0, .int .u32 0, .int .u32 0, .int .u32 0, .int .u32 0, .int .u32 0, .int .u32 0, .int .u32 0, .int .u32 0, .int .u32 0, .int .u32 0, .int .u32 0, .int .u32 0, .int .u32 0, .int .u32 0, .int .u32 0, .int .u32 0, .int .u32 0, .int .u32 0, .int .u32 0, .int .u32 0, .int .u32 0, .int .u32 0, .int .u32 0, .int .u32 0, .int .u32 0, .int .u32 0, .int .u32 0, .int .u32 0, .int .u32 0, .int .u32 0, .int .u32 0, .int .u32 0, .int .u32 0, .int .u32 0, .int .u32 0, .int .u32 0, .int .u32 0, .int .u32 0, .int .u32 0] #[.int .u32 0, .int .u32 0, .int .u32 0, .int .u32 0, .int .u32 0, .int .u32 0, .int .u32 0, .int .u32 0] ws hws)
  have hi2 : (Try.prog.info? 110).map (·.size) = some ws.size := by rw [infoW, hws.size]
  have hws1 := hws.one
  have hws2 := hws.size
  have HST := hide (((unhide HM0).below hbel).below (below_row w2 #[.int .u32 0, .int .u32 0, .int .u32 0, .int .u32 0, .int .u32 0, .int .u32 0, .int .u32 0, .int .u32 0, .int .u32 0, .int .u32 0, .int .u32 0, .int .u32 0, .int .u32 0, .int .u32 0, .int .u32 0, .int .u32 0, .int .u32 0, .int .u32 0, .int .u32 0, .int .u32 0, .int .u32 0, .int .u32 0, .int .u32 0, .int .u32 0, .int .u32 0, .int .u32 0, .int .u32 0, .int .u32 0, .int .u32 0, .int .u32 0, .int .u32 0, .int .u32 0, .int .u32 0, .int .u32 0, .int .u32 0, .int .u32 0, .int .u32 0, .int .u32 0, .int .u32 0, .int .u32 0, .int .u32 0, .int .u32 0, .int .u32 0, .int .u32 0, .int .u32 0, .int .u32 0, .int .u32 0, .int .u32 0, .int .u32 0, .int .u32 0, .int .u32 0, .int .u32 0, .int .u32 0, .int .u32 0, .int .u32 0, .int .u32 0, .int .u32 0, .int .u32 0, .int .u32 0, .int .u32 0, .int .u32 0, .int .u32 0, .int .u32 0, .int .u32 0] ws 110)).st
  clear hbel hws
  go_wp2_with (first | (refine wpList_store_row rfl 110 (.tmp 6) (.tmp 20) rfl w2.heap.size ws rfl rfl 110 #[.int .u32 0, .int .u32 0, .int .u32 0, .int .u32 0, .int .u32 0, .int .u32 0, .int .u32 0, .int .u32 0, .int .u32 0, .int .u32 0, .int .u32 0, .int .u32 0, .int .u32 0, .int .u32 0, .int .u32 0, .int .u32 0, .int .u32 0, .int .u32 0, .int .u32 0, .int .u32 0, .int .u32 0, .int .u32 0, .int .u32 0, .int .u32 0, .int .u32 0, .int .u32 0, .int .u32 0, .int .u32 0, .int .u32 0, .int .u32 0, .int .u32 0, .int .u32 0, .int .u32 0, .int .u32 0, .int .u32 0, .int .u32 0, .int .u32 0, .int .u32 0, .int .u32 0, .int .u32 0, .int .u32 0, .int .u32 0, .int .u32 0, .int .u32 0, .int .u32 0, .int .u32 0, .int .u32 0, .int .u32 0, .int .u32 0, .int .u32 0, .int .u32 0, .int .u32 0, .int .u32 0, .int .u32 0, .int .u32 0, .int .u32 0, .int .u32 0, .int .u32 0, .int .u32 0, .int .u32 0, .int .u32 0, .int .u32 0, .int .u32 0, .int .u32 0] (heap_alloc_new _ _) hi2 (by rw [hws2]; rfl) hws1 ?_) | (refine wpList_load_row rfl 90 (.tmp 2) rfl w.heap.size rfl 90 (St8 s) (0, 0) _ (unhide HST) hu rfl info8 ?_) | (refine wpList_store_row rfl 90 (.tmp 7) (.tmp 21) rfl (w2.heap.size + 1) (St8 s) rfl rfl 90 #[.int .u32 0, .int .u32 0, .int .u32 0, .int .u32 0, .int .u32 0, .int .u32 0, .int .u32 0, .int .u32 0] (by have := heap_alloc_new ((w2.alloc (.cells #[.int .u32 0, .int .u32 0, .int .u32 0, .int .u32 0, .int .u32 0, .int .u32 0, .int .u32 0, .int .u32 0, .int .u32 0, .int .u32 0, .int .u32 0, .int .u32 0, .int .u32 0, .int .u32 0, .int .u32 0, .int .u32 0, .int .u32 0, .int .u32 0, .int .u32 0, .int .u32 0, .int .u32 0, .int .u32 0, .int .u32 0, .int .u32 0, .int .u32 0, .int .u32 0, .int .u32 0, .int .u32 0, .int .u32 0, .int .u32 0, .int .u32 0, .int .u32 0, .int .u32 0, .int .u32 0, .int .u32 0, .int .u32 0, .int .u32 0, .int .u32 0, .int .u32 0, .int .u32 0, .int .u32 0, .int .u32 0, .int .u32 0, .int .u32 0, .int .u32 0, .int .u32 0, .int .u32 0, .int .u32 0, .int .u32 0, .int .u32 0, .int .u32 0, .int .u32 0, .int .u32 0, .int .u32 0, .int .u32 0, .int .u32 0, .int .u32 0, .int .u32 0, .int .u32 0, .int .u32 0, .int .u32 0, .int .u32 0, .int .u32 0, .int .u32 0] 110)).setRow w2.heap.size ws) (.cells #[.int .u32 0, .int .u32 0, .int .u32 0, .int .u32 0, .int .u32 0, .int .u32 0, .int .u32 0, .int .u32 0] 90); simpa using this) info8 rfl (St8_one s) ?_))
  clear hi2 hws1 hws2 HST
  generalize (((w2.alloc (.cells #[.int .u32 0, .int .u32 0, .int .u32 0, .int .u32 0, .int .u32 0, .int .u32 0, .int .u32 0, .int .u32 0, .int .u32 0, .int .u32 0, .int .u32 0, .int .u32 0, .int .u32 0, .int .u32 0, .int .u32 0, .int .u32 0, .int .u32 0, .int .u32 0, .int .u32 0, .int .u32 0, .int .u32 0, .int .u32 0, .int .u32 0, .int .u32 0, .int .u32 0, .int .u32 0, .int .u32 0, .int .u32 0, .int .u32 0, .int .u32 0, .int .u32 0, .int .u32 0, .int .u32 0, .int .u32 0, .int .u32 0, .int .u32 0, .int .u32 0, .int .u32 0, .int .u32 0, .int .u32 0, .int .u32 0, .int .u32 0, .int .u32 0, .int .u32 0, .int .u32 0, .int .u32 0, .int .u32 0, .int .u32 0, .int .u32 0, .int .u32 0, .int .u32 0, .int .u32 0, .int .u32 0, .int .u32 0, .int .u32 0, .int .u32 0, .int .u32 0, .int .u32 0, .int .u32 0, .int .u32 0, .int .u32 0, .int .u32 0, .int .u32 0, .int .u32 0] 110)).setRow w2.heap.size ws).alloc (.cells #[.int .u32 0, .int .u32 0, .int .u32 0, .int .u32 0, .int .u32 0, .int .u32 0, .int .u32 0, .int .u32 0] 90)).setRow (w2.heap.size + 1) (St8 s) = W3 at HM ⊢
  generalize w2.heap.size + 1 = m3 at HM ⊢
  generalize w2.heap.size = m2 at HM ⊢
  clear HM0
  go_loopw [8] (fun i wr => ∃ (k a1 b1 c1 d1 e1 f1 g1 h1 : Nat), k ≤ 64 ∧ i = .int .i64 k ∧ Hid (Sha.rnd b s k = ⟨a1, b1, c1, d1, e1, f1, g1, h1⟩) ∧ Hid (My b s ⟨a1, b1, c1, d1, e1, f1, g1, h1⟩ w wr m1 m2 m3 #[.int .u32 0, .int .u32 0, .int .u32 0, .int .u32 0, .int .u32 0, .int .u32 0, .int .u32 0, .int .u32 0])) (fun i _ => 64 - (RowKit.intOf i).toNat)
  case atStart => exact ⟨0, s.a, s.b, s.c, s.d, s.e, s.f, s.g, s.h, by omega, rfl, rfl, HM⟩
  case round =>
    clear HM
    obtain ⟨k, a1, b1, c1, d1, e1, f1, g1, h1, hk, rfl, HR, HM⟩ := hrel
    have hok : Ok ⟨a1, b1, c1, d1, e1, f1, g1, h1⟩ := by rw [← unhide HR]; exact (unhide HS).rnd b k
    by_cases hlt : k < 64
    · have ha := hok.a
      have hb := hok.b
      have hc := hok.c
      have hd := hok.d
      have he := hok.e
      have hf := hok.f
      have hg' := hok.g
      have hh := hok.h
      simp only at ha hb hc hd he hf hg' hh
      have cw := (unhide HM).wo k hlt
      have ct := (unhide HM).my.tab k hlt
      have z0 : wr.cell? ⟨m3, 0, none⟩ = some (.int .u32 a1) := (unhide HM).cell 0 (by decide)
      have z1 : wr.cell? ⟨m3, 1, none⟩ = some (.int .u32 b1) := (unhide HM).cell 1 (by decide)
      have z2 : wr.cell? ⟨m3, 2, none⟩ = some (.int .u32 c1) := (unhide HM).cell 2 (by decide)
      have z3 : wr.cell? ⟨m3, 3, none⟩ = some (.int .u32 d1) := (unhide HM).cell 3 (by decide)
      have z4 : wr.cell? ⟨m3, 4, none⟩ = some (.int .u32 e1) := (unhide HM).cell 4 (by decide)
      have z5 : wr.cell? ⟨m3, 5, none⟩ = some (.int .u32 f1) := (unhide HM).cell 5 (by decide)
      have z6 : wr.cell? ⟨m3, 6, none⟩ = some (.int .u32 g1) := (unhide HM).cell 6 (by decide)
      have z7 : wr.cell? ⟨m3, 7, none⟩ = some (.int .u32 h1) := (unhide HM).cell 7 (by decide)
      have HL : Hid (Sha.wd b k < 4294967296 ∧ Sha.K.getD k 0 < 4294967296) := ⟨Sha.wd_lt b (unhide HB) k, K_lt k⟩
      have HN : Hid (Sha.rnd b s (k + 1) = Sha.rstep ⟨a1, b1, c1, d1, e1, f1, g1, h1⟩ (Sha.K.getD k 0) (Sha.wd b k)) := by
        show Sha.rstep (Sha.rnd b s k) _ _ = _
        rw [unhide HR]
      obtain ⟨A1, B1, C1, D1, E1, F1, ⟨p1, p2, p3, p4, p5, p6⟩, H1⟩ := Rd1.make e1 f1 g1 he hf hg'
      obtain ⟨A2, B2, C2, D2, E2, G2, F2, ⟨q1, q2, q3, q4, q5, q6, q7⟩, H2⟩ := Rd2.make a1 b1 c1 ha hb hc
      have hki : (k : Int) < 64 := by omega
      have T1 : Hid (∀ u, Calls Try.prog 71 #[.int .u32 e1, .int .i64 6] u fun e w' => e = .returned (.int .u32 (Sha.rot e1 6 : Nat)) ∧ ∃ k, w' = u.drewN k) := hide fun u => mRight e1 6 u he (by decide) (by decide)
      have T2 : Hid (∀ u, Calls Try.prog 71 #[.int .u32 e1, .int .i64 11] u fun e w' => e = .returned (.int .u32 (Sha.rot e1 11 : Nat)) ∧ ∃ k, w' = u.drewN k) := hide fun u => mRight e1 11 u he (by decide) (by decide)
      have T3 : Hid (∀ u, Calls Try.prog 71 #[.int .u32 e1, .int .i64 25] u fun e w' => e = .returned (.int .u32 (Sha.rot e1 25 : Nat)) ∧ ∃ k, w' = u.drewN k) := hide fun u => mRight e1 25 u he (by decide) (by decide)
      have T4 : Hid (∀ u, Calls Try.prog 71 #[.int .u32 a1, .int .i64 2] u fun e w' => e = .returned (.int .u32 (Sha.rot a1 2 : Nat)) ∧ ∃ k, w' = u.drewN k) := hide fun u => mRight a1 2 u ha (by decide) (by decide)
      have T5 : Hid (∀ u, Calls Try.prog 71 #[.int .u32 a1, .int .i64 13] u fun e w' => e = .returned (.int .u32 (Sha.rot a1 13 : Nat)) ∧ ∃ k, w' = u.drewN k) := hide fun u => mRight a1 13 u ha (by decide) (by decide)
      have T6 : Hid (∀ u, Calls Try.prog 71 #[.int .u32 a1, .int .i64 22] u fun e w' => e = .returned (.int .u32 (Sha.rot a1 22 : Nat)) ∧ ∃ k, w' = u.drewN k) := hide fun u => mRight a1 22 u ha (by decide) (by decide)
      have HO : Hid (B1 < 4294967296 ∧ F1 < 4294967296 ∧ B2 < 4294967296 ∧ F2 < 4294967296) := by
        rw [(unhide H1).1, (unhide H1).2, (unhide H2).1, (unhide H2).2]
        exact ⟨xor_lt (xor_lt (Sha.rot_lt _ _ he) (Sha.rot_lt _ _ he)) (Sha.rot_lt _ _ he), xor_lt (and_lt he) (and_lt (by omega)), xor_lt (xor_lt (Sha.rot_lt _ _ ha) (Sha.rot_lt _ _ ha)) (Sha.rot_lt _ _ ha), xor_lt (xor_lt (and_lt ha) (and_lt ha)) (and_lt hb)⟩
      generalize Sha.wd b k = y at *
      generalize Sha.K.getD k 0 = q at *
      have HA : Hid (d1 < 4294967296 ∧ h1 < 4294967296) := ⟨hd, hh⟩
      clear hok ha hb hc hd he hf hg' hh
      go_wp2
      go_quiet (first | (go_at_call 71; with_reducible exact Calls.quiet_of (unhide T1 _)) | (go_at_call 71; with_reducible exact Calls.quiet_of (unhide T2 _)) | (go_at_call 71; with_reducible exact Calls.quiet_of (unhide T3 _)))
      go_wp2_with fail
      refine (unhide T4 _).mono ?_
      rintro e w3 ⟨rfl, n4, rfl⟩
      go_wp2_with fail
      refine (unhide T5 _).mono ?_
      rintro e w3 ⟨rfl, n5, rfl⟩
      go_wp2_with fail
      refine (unhide T6 _).mono ?_
      rintro e w3 ⟨rfl, n6, rfl⟩
      go_wp2_with (refine wpList_store_row rfl 90 (.tmp 7) (.tmp 99) rfl m3 _ rfl rfl 90 (St8 ⟨a1, b1, c1, d1, e1, f1, g1, h1⟩) (unhide HM).cur info8 rfl (by simp [Value.oneCell']) ?_)
      go_roundw
      case rel =>
        refine ⟨k + 1, (Sha.rstep ⟨a1, b1, c1, d1, e1, f1, g1, h1⟩ q y).a, a1, b1, c1, (Sha.rstep ⟨a1, b1, c1, d1, e1, f1, g1, h1⟩ q y).e, e1, f1, g1, by omega, by go_num, hide (unhide HN), hide (((unhide HM).drewN _).row' _ (arr8 ?_ ?_))⟩
        · have e1' := unhide H1
          have h2 := unhide H2
          have h3 := unhide HO
          have h4 := unhide HA
          have h5 := unhide HL
          show Value.int _ _ = Value.int _ (((((h1 + Sha.S1 e1 + Sha.ch e1 f1 g1 + q + y) % 4294967296 + (Sha.S0 a1 + Sha.maj a1 b1 c1) % 4294967296) % 4294967296 : Nat)) : Int)
          rw [← e1'.1, ← e1'.2, ← h2.1, ← h2.2]
          congr 1
          try simp only [IntKind.wrap_u32]
          omega
        · have e1' := unhide H1
          have h3 := unhide HO
          have h4 := unhide HA
          have h5 := unhide HL
          show Value.int _ _ = Value.int _ ((((d1 + (h1 + Sha.S1 e1 + Sha.ch e1 f1 g1 + q + y) % 4294967296) % 4294967296 : Nat)) : Int)
          rw [← e1'.1, ← e1'.2]
          congr 1
          try simp only [IntKind.wrap_u32]
          omega
      case measure => simp [RowKit.intOf]; omega
    · have hkk : k = 64 := by omega
      subst hkk
      clear hk hlt
      have HZ : Hid (wr.heap[w.heap.size]? = some (.cells (St8 s) 90 (0, 0)) ∧ wr.heap[w.heap.size + 1]? = some (.cells #[.int .u32 0, .int .u32 0, .int .u32 0, .int .u32 0, .int .u32 0, .int .u32 0, .int .u32 0, .int .u32 0] 90 (0, 0))) := ⟨(unhide HM).my.st, (unhide HM).my.res⟩
      have HI : Hid (R8 (su ⟨a1, b1, c1, d1, e1, f1, g1, h1⟩ s 0) w wr m3 (St8 ⟨a1, b1, c1, d1, e1, f1, g1, h1⟩)) := ⟨⟨rfl, fun j hj => by rw [St8_at _ j hj]; rfl⟩, (unhide HM).cur, by have := (unhide HM).le; omega, (unhide HM).my.bel⟩
      have hm3 := (unhide HM).le
      have HO := hide hok
      clear hok HM
      go_wp2
      go_loopw [17] (fun i wr2 => ∃ (k : Nat) (ts : Array Value), k ≤ 8 ∧ i = .int .i64 k ∧ Hid (R8 (su ⟨a1, b1, c1, d1, e1, f1, g1, h1⟩ s k) w wr2 m3 ts) ∧ Hid (wr2.heap[w.heap.size]? = some (.cells (St8 s) 90 (0, 0)) ∧ wr2.heap[w.heap.size + 1]? = some (.cells #[.int .u32 0, .int .u32 0, .int .u32 0, .int .u32 0, .int .u32 0, .int .u32 0, .int .u32 0, .int .u32 0] 90 (0, 0)))) (fun i _ => 8 - (RowKit.intOf i).toNat)
      case atStart => exact ⟨0, _, by omega, rfl, HI, HZ⟩
      case round =>
        clear HI HZ
        obtain ⟨k, ts, hk, rfl, HI, HZ⟩ := hrel
        by_cases hlt : k < 8
        · have hc := (unhide HI).cell hlt
          rw [su_here] at hc
          have hc2 : wr.cell? ⟨w.heap.size, k, none⟩ = some (.int .u32 (fld s k : Nat)) := by simp [World.cell?, (unhide HZ).1, St8_at s k hlt]
          have hfz := (unhide HI).frozen k
          have hki : (k : Int) < 8 := by omega
          have HN := hide (fun v n hv => And.intro ((unhide HI).upd (f' := su ⟨a1, b1, c1, d1, e1, f1, g1, h1⟩ s (k + 1)) v n hv hlt (fun j hj => su_other _ _ k j hj)) (And.intro (heapSetO (v := v) (k := k) (r := m3) (unhide HZ).1 (by omega)) (heapSetO (v := v) (k := k) (r := m3) (unhide HZ).2 (by omega))))
          have HS8 : Hid (su ⟨a1, b1, c1, d1, e1, f1, g1, h1⟩ s (k + 1) k = (fld ⟨a1, b1, c1, d1, e1, f1, g1, h1⟩ k + fld s k) % 4294967296) := su_same _ _ _
          have hx := fld_lt (unhide HS) k
          have hy := fld_lt (unhide HO) k
          generalize fld ⟨a1, b1, c1, d1, e1, f1, g1, h1⟩ k = y at *
          generalize fld s k = x at *
          have hn3 : ¬ (w.heap.size = m3) := by omega
          have hn3' : ¬ (m3 = w.heap.size) := by omega
          go_wp2
          go_region
          go_wp2
          have HV : Hid (Value.int .u32 (((y : Int) + x) % 4294967296) = .int .u32 (su ⟨a1, b1, c1, d1, e1, f1, g1, h1⟩ s (k + 1) k : Nat)) := by
            show Value.int _ _ = Value.int _ _
            rw [unhide HS8]
            congr 1
          go_roundw
          case rel => exact ⟨k + 1, _, by omega, by go_num, hide (unhide HN _ 1 (unhide HV)).1, hide (unhide HN _ 1 (unhide HV)).2⟩
          case measure => simp [RowKit.intOf]; omega
        · have hkk : k = 8 := by omega
          subst hkk
          have h6 := (unhide HI).row
          have h1 := (unhide HI).is.size
          have h4 := (unhide HZ).2
          have hi : (Try.prog.info? 90).map (·.size) = some ts.size := by rw [info8, h1]
          have hT : ts = St8 (Sha.add s (Sha.rnd b s 64)) := by
            refine Is32.eq8 ⟨h1, fun j hj => ?_⟩
            rw [(unhide HI).is.at' j hj, fld_add s _ j hj, unhide HR]
            unfold su
            rw [if_pos hj, Nat.add_comm]
          go_wp2_with (first | (refine wpList_load_row rfl 90 (.tmp 7) rfl m3 rfl 90 ts (0, 0) _ h6 hu rfl hi ?_) | (refine wpList_store_row rfl 90 (.tmp 4) (.tmp 113) rfl (w.heap.size + 1) ts rfl rfl 90 #[.int .u32 0, .int .u32 0, .int .u32 0, .int .u32 0, .int .u32 0, .int .u32 0, .int .u32 0, .int .u32 0] h4 hi (by rw [h1]; rfl) (unhide HI).is.one ?_))
          refine bodyPost_ret (results_cell_row rfl _ _ (w.heap.size + 1) 90 ts (0, 0) _ rfl (heapRow_same h4 ts) hu rfl hi) rfl ?_
          exact ⟨by rw [hT], belowRow (unhide HI).bel (by omega) _⟩
theorem cutMid (g n c p : Nat) (hp : p + 64 ≤ n) (hc : n ≤ c) (W : World) : (Instr.slice 81 (.slice (some ⟨g, 0, none⟩) n c) (some (.int .i64 (p : Int))) (some (.int .i64 ((p : Int) + 64))) none).run Try.prog W = .ok (.slice (some ⟨g, p, none⟩) 64 (c - p)) W := by
  rw [run_slice_lh W 81 _ _ _ bytesUnd .i64 .i64 (p : Int) ((p : Int) + 64) (by omega) (by omega) (by omega), bytesSize]
  simp only [Result.andThen_ok, sliced, Int.toNat_natCast, Nat.mul_one]
  rw [if_neg (by omega), Option.map_some, Addr.add_mid, Nat.zero_add, show ((p : Int) + 64).toNat - p = 64 from by omega]
theorem absorb_blocks (L : List UInt8) (N : Nat) (h : L.length = 64 * N) : Sha.absorb L = Sha.blocks N Sha.start L := by
  unfold Sha.absorb; rw [h, show 64 * N / 64 = N from by omega]
def Z8 : Array Value := (List.replicate 8 (Value.int .u32 0)).toArray
theorem zero8 : ((Try.prog.info? 90).bind (·.zero)).map (·.cells) = some Z8 := by kernel_rfl
set_option maxRecDepth 100000 in
set_option maxHeartbeats 2000000 in
theorem mOf (s : ByteArray) (hs : s.size ≤ 140737488351232) (w : World) : Calls Try.prog 37 #[.string s] w fun e w' => e = .returned (.agg (ofCells s.data.toList)) ∧ Below w.heap.size w w' := by
  obtain ⟨b, hbw⟩ : ∃ b, b = w.heap.size := ⟨_, rfl⟩
  have HBW := hide hbw
  clear hbw
  have hus := Try.underlying71
  have hl := list_size s
  have hs0 : (s.size : Int) ≤ 140737488351232 := by omega
  obtain ⟨i0, hi, hz0, hz1, hz2⟩ := info_parts infoU8
  have HFL : Hid ((Sha.fill s.size).length ≤ 72 ∧ 0 < (Sha.fill s.size).length ∧ (s.size + (Sha.fill s.size).length) % 64 = 0) := by
    have := Sha.fill_len s.size
    exact ⟨by omega, by omega, by omega⟩
  have HF := hide (fun u => mFill s.size u (by omega))
  obtain ⟨F, hF⟩ : ∃ F, F = Sha.fill s.size := ⟨_, rfl⟩
  rw [← hF] at HFL HF
  have HFF := hide hF
  clear hF
  go_enter Try.func37, Try.ntmps37
  go_wp2_with (refine wpList_alloc_row (by rfl) 71 (by rfl) (some 2) (by rfl) b (by exact (unhide HBW).symm) Z32 zeroS ?_; intro W1 HR1 HB1 HS1; obtain ⟨g0, c0, W2, hcv, hbr⟩ := conv_br W1 s (by omega); have HBR := hide hbr; clear hbr)
  refine (unhide HF _).mono ?_
  rintro e W3 ⟨v, rfl, ho⟩
  obtain ⟨gF, cF, rfl, hgF, hcF, hsF⟩ := ho.src (unhide HFL).2.1
  have HI3 : Hid (BR W1 W3 g0 c0 (s.data.toList ++ F.take 0) ∧ (∀ (j : Nat) (hj : j < F.length), W3.cell? ⟨gF, j, none⟩ = some (.int .u8 (F[j].toNat : Int))) ∧ gF < W3.heap.size ∧ gF ≠ g0) := by
    refine ⟨by simpa using (unhide HBR).below ho.2, fun j hj => by simpa using hsF j hj, ?_, by have := (unhide HBR).lt; omega⟩
    exact World.block_lt_of_cell? W3 _ (hsF 0 (unhide HFL).2.1)
  clear ho hsF hgF HBR hcv HF
  go_wp2
  go_loopw [3, 5] (fun vb vi wr => ∃ (k g c : Nat), k ≤ F.length ∧ vi = .int .i64 k ∧ vb = .slice (some ⟨g, 0, none⟩) (s.size + k) c ∧ Hid (BR W1 wr g c (s.data.toList ++ F.take k) ∧ (∀ (j : Nat) (hj : j < F.length), wr.cell? ⟨gF, j, none⟩ = some (.int .u8 (F[j].toNat : Int))) ∧ gF < wr.heap.size ∧ gF ≠ g)) (fun _ vi _ => F.length - (RowKit.intOf vi).toNat)
  case atStart => exact ⟨0, g0, c0, Nat.zero_le _, rfl, rfl, HI3⟩
  case round =>
    clear HI3
    obtain ⟨k, g, c, hk, rfl, rfl, HI⟩ := hrel
    by_cases hlt : k < F.length
    · have hki : (k : Int) < (F.length : Int) := by omega
      have hcx := (unhide HI).2.1 k hlt
      have hF72 : F.length ≤ 72 := (unhide HFL).1
      have hblen : (s.data.toList ++ F.take k).length = s.size + k := by rw [List.length_append, List.length_take, hl]; omega
      have HTK : Hid (F.take (k + 1) = F.take k ++ [F[k]]) := List.take_succ_eq_append_getElem hlt
      obtain ⟨x, hx⟩ : ∃ x, x = F[k] := ⟨_, rfl⟩
      rw [← hx] at hcx HTK
      have hxb := UInt8.toNat_lt x
      obtain ⟨g', c', W5, hrun, hbr, hu1, hor⟩ := ((unhide HI).1.alloc (.cells #[.int .u8 (x.toNat : Int)] 5)).append 81 ⟨wr.heap.size, 0, none⟩ 1 1 [x] rfl (by simp) (fun j hj => by
        obtain rfl : j = 0 := by simpa using hj
        simp [Addr.add]) (by rw [hblen]; simp; omega)
      rw [hblen] at hrun
      have HN : Hid (BR W1 W5 g' c' (s.data.toList ++ F.take (k + 1)) ∧ (∀ (j : Nat) (hj : j < F.length), W5.cell? ⟨gF, j, none⟩ = some (.int .u8 (F[j].toNat : Int))) ∧ gF < W5.heap.size ∧ gF ≠ g') := by
        have hI := unhide HI
        have hsz := hu1.size
        simp only [World.size_alloc] at hsz hor
        refine ⟨by rw [unhide HTK, ← List.append_assoc]; exact hbr, fun j hj => ?_, by omega, by rcases hor with rfl | h; exact hI.2.2.2; omega⟩
        refine cell_u1 hu1 hI.2.2.2 ?_
        rw [World.cell?_alloc_lt _ _ _ (by exact hI.2.2.1)]
        exact hI.2.1 j hj
      clear hbr hu1 hor HTK HI hblen hx
      go_wp2_with (at_builtin; refine Lib.wpList_append_run _ rfl (.tmp 22) (.tmp 27) 81 81 rfl _ _ rfl rfl _ _ hrun ?_)
      go_roundw
      case rel => exact ⟨k + 1, g', c', by omega, by go_num, rfl, hide (unhide HN)⟩
      case measure => simp [RowKit.intOf]; omega
    · have hkk : k = F.length := by omega
      subst hkk
      have hF72 : F.length ≤ 72 := (unhide HFL).1
      obtain ⟨L, hL⟩ : ∃ L, L = s.data.toList ++ F := ⟨_, rfl⟩
      have HB4 : Hid (BR W1 wr g c L) := by have := (unhide HI).1; rw [List.take_of_length_le (Nat.le_refl _), ← hL] at this; exact this
      have HLN : Hid (L.length = s.size + F.length) := by rw [hL, List.length_append, hl]; exact hide rfl
      have HLE := hide hL
      obtain ⟨n, hn⟩ : ∃ n, n = s.size + F.length := ⟨_, rfl⟩
      obtain ⟨N, hN⟩ : ∃ N, n = 64 * N := ⟨n / 64, by have := (unhide HFL).2.2; omega⟩
      rw [← hn] at HLN
      have hni : (n : Int) ≤ 140737488355200 := by omega
      have HNN := hide hN
      clear HI hL hN hF72
      rw [← hn]
      clear hn
      go_wp2_with fail
      refine (mStart _).mono ?_
      rintro e W4 ⟨rfl, hb4⟩
      have HB5 := hide ((unhide HB4).below hb4)
      clear hb4 HB4
      generalize hsb : W4.heap.size = sb
      have HSB := hide hsb
      clear hsb
      go_wp2_with (first | (refine wpList_alloc_row (by rfl) 90 (by rfl) (some 6) (by rfl) sb (by exact unhide HSB) _ zero8 ?_; intro W5 HR5 HB5' HS5) | (refine wpList_store_u1 rfl 90 (.tmp 6) (.tmp 29) rfl sb (St8 Sha.start) rfl rfl 90 _ (unhide HR5) info8 rfl (St8_one _) ?_; intro W6 HR6 HU6))
      have HP : Hid (BR W1 W6 g c L ∧ W6.heap[sb]? = some (.cells (St8 (Sha.blocks 0 Sha.start L)) 90 (0, 0)) ∧ sb ≠ g ∧ b + 1 ≤ sb ∧ sb < W6.heap.size) := by
        have hsb := unhide HSB
        have h5 := unhide HB5
        have hb5 := unhide HB5'
        rw [← hsb] at hb5
        have h6 := h5.below hb5
        have hlt := h5.lt
        have hge := h5.ge
        have hs1 := unhide HS1
        have hs5 := unhide HS5
        have hbs := h5.bel.size
        refine ⟨h6.keep ((unhide HU6).block g (by omega) (by omega)) (h6.bel.trans ((unhide HU6).toBelow (by omega) (by omega))), unhide HR6, by omega, by omega, by have := (unhide HU6).size; omega⟩
      clear HR5 HB5' HS5 HR6 HU6 HB5 HSB
      go_wp2
      go_loopw [7] (fun vi wr2 => ∃ (k p : Nat), k ≤ N ∧ vi = .int .i64 (p : Int) ∧ Hid (p = 64 * k) ∧ p ≤ n ∧ Hid (BR W1 wr2 g c L ∧ wr2.heap[sb]? = some (.cells (St8 (Sha.blocks k Sha.start L)) 90 (0, 0)) ∧ sb ≠ g ∧ b + 1 ≤ sb ∧ sb < wr2.heap.size)) (fun vi _ => n - (RowKit.intOf vi).toNat)
      case atStart => exact ⟨0, 0, Nat.zero_le _, rfl, hide rfl, Nat.zero_le _, HP⟩
      case round =>
        clear HP
        obtain ⟨k, p, hkN, rfl, HPK, hpn, HP⟩ := hrel
        by_cases hlt2 : p < n
        · have hpi : (p : Int) < (n : Int) := by omega
          have hp64 : p + 64 ≤ n := by have := unhide HPK; have := unhide HNN; omega
          have hwr : IntKind.i64.wrap ((p : Int) + 64) = (p : Int) + 64 := by rw [IntKind.wrap_i64]; omega
          have hcm := cutMid g n c p hp64 (by have := (unhide HP).1.le; rw [unhide HLN] at this; exact this)
          have HX : Hid (Sha.blocks (k + 1) Sha.start L = Sha.mix (Sha.blocks k Sha.start L) ((L.drop (64 * k)).take 64)) := Sha.blocks_succ _ _ _
          have HOK : Hid (Ok (Sha.blocks k Sha.start L)) := Ok.start.blocks _ _
          have HCL : Hid (∀ j, j < 64 → wr.cell? ⟨g, p + j, none⟩ = some (.int .u8 (lfB ((L.drop (64 * k)).take 64) j : Nat))) := by
            intro j hj
            have e1 := unhide HPK
            have e2 := unhide HLN
            rw [(unhide HP).1.cell (p + j) (by omega)]
            simp only [lfB, List.getD, List.getElem?_take_of_lt hj, List.getElem?_drop, ← e1]
            rw [List.getElem?_eq_getElem (by omega)]
            rfl
          generalize Sha.blocks k Sha.start L = t at *
          generalize (L.drop (64 * k)).take 64 = x at *
          go_wp2
          refine wp_region_any (by kernel_rfl) ?_
          change wpAny _ _ _ _ _ _ _ (World.drew _)
          refine wpAny_take' 1 37 (.slice (some ⟨g, 0, none⟩) n c) rfl rfl (by kernel_rfl) (by kernel_rfl) (by kernel_rfl) (fun _ _ _ h => h) rfl (fun u => by go_simp) ?_
          simp only [Act.put, List.setIfInBounds_toArray, List.set_cons_zero, List.set_cons_succ]
          refine wpAny_take' 2 38 (.int .i64 (p : Int)) rfl rfl (by kernel_rfl) (by kernel_rfl) (by kernel_rfl) (fun _ _ _ h => h) rfl (fun u => by go_simp) ?_
          simp only [Act.put, List.setIfInBounds_toArray, List.set_cons_zero, List.set_cons_succ]
          refine wpAny_take' 3 39 (.int .i64 (p : Int)) rfl rfl (by kernel_rfl) (by kernel_rfl) (by kernel_rfl) (fun _ _ _ h => h) rfl (fun u => by go_simp) ?_
          simp only [Act.put, List.setIfInBounds_toArray, List.set_cons_zero, List.set_cons_succ]
          refine wpAny_take' 4 40 (.int .i64 ((p : Int) + 64)) rfl rfl (by kernel_rfl) (by kernel_rfl) (by kernel_rfl) (fun _ _ _ h => h) rfl (fun u => by go_simp) ?_
          simp only [Act.put, List.setIfInBounds_toArray, List.set_cons_zero, List.set_cons_succ]
          refine wpAny_take' 5 41 (.slice (some ⟨g, p, none⟩) 64 (c - p)) rfl rfl (by kernel_rfl) (by kernel_rfl) (by kernel_rfl) (fun _ _ _ h => h) rfl (fun u => by go_simp) ?_
          simp only [Act.put, List.setIfInBounds_toArray, List.set_cons_zero, List.set_cons_succ]
          have hst : wr.drew.rangeAt sb 0 (St8 t).toList := by
            intro j v hv
            rw [Nat.zero_add]
            show wr.cell? ⟨sb, j, none⟩ = some v
            simp only [World.cell?, (unhide HP).2.1]
            simpa using hv
          refine wpAny_one (i := 0) (by kernel_rfl) rfl rfl fun K hK => wp_load_arr 90 (.tmp 6) rfl (some 36) rfl sb 0 rfl (St8 t) _ _ hst Try.underlying90 info8 (hK _ _ ?_)
          clear hK K hst
          simp only [Act.put, List.setIfInBounds_toArray, List.set_cons_zero, List.set_cons_succ]
          refine wpAny_one (i := 6) (by kernel_rfl) rfl rfl fun K hK => ?_
          go_simp
          refine (mMade (lfB x) (lfB_lt _) t (unhide HOK) g p (c - p) wr.drew (unhide HP).1.lt (unhide HCL)).mono ?_
          rintro e W7 ⟨rfl, hb7⟩
          rw [mix_lfB]
          have hr7 : W7.heap[sb]? = some (.cells (St8 t) 90 (0, 0)) := (hb7.block sb (unhide HP).2.2.2.2).trans (unhide HP).2.1
          have hth : W7.there sb 0 8 := by
            intro j hj
            rw [Nat.zero_add]
            refine ⟨?_, by simp [World.frozen?, hr7]⟩
            simp only [World.cell?, hr7]
            rw [St8_at t j hj]; rfl
          have HP7 : Hid (BR W1 (W7.setCells sb 0 (St8 (Sha.mix t x)).toList) g c L ∧ (W7.setCells sb 0 (St8 (Sha.mix t x)).toList).heap[sb]? = some (.cells (St8 (Sha.mix t x)) 90 (0, 0)) ∧ sb ≠ g ∧ b + 1 ≤ sb ∧ sb < (W7.setCells sb 0 (St8 (Sha.mix t x)).toList).heap.size) := by
            have hP := unhide HP
            have hd : BR W1 wr.drew g c L := hP.1.keep rfl ⟨hP.1.bel.os, hP.1.bel.tape, hP.1.bel.output, hP.1.bel.size, hP.1.bel.block⟩
            have h7 := hd.below hb7
            have hu : U1 W7 (W7.setCells sb 0 (St8 (Sha.mix t x)).toList) sb := U1.cells _ _ _ (U1.refl _ _)
            have hs1 := unhide HS1
            have hlt7 := h7.lt
            have hbs := h7.bel.size
            have hrr := heap_setCells (St8 (Sha.mix t x)).toList 0 W7 (St8 t).toList hr7 (by simp [St8])
            have es : splice (St8 t).toList 0 (St8 (Sha.mix t x)).toList = (St8 (Sha.mix t x)).toList := by simp [splice, St8]
            rw [es] at hrr
            refine ⟨h7.keep (hu.block g hlt7 (Ne.symm hP.2.2.1)) (h7.bel.trans (hu.toBelow (by omega) (by omega))), hrr, hP.2.2.1, hP.2.2.2.1, ?_⟩
            exact (Array.getElem?_eq_some_iff.1 hrr).1
          clear hb7 hr7 HCL HOK HP
          generalize Sha.mix t x = t2 at *
          refine hK _ _ ?_
          clear hK K
          refine wpAny_one (i := 7) (by kernel_rfl) rfl rfl fun K hK => wp_store_arr 90 (.tmp 6) (.tmp 42) rfl rfl sb 0 (St8 t2) rfl rfl hth info8 (St8_one t2) (hK _ _ ?_)
          clear hK K hth
          refine wpAny_done (by kernel_rfl) ?_ _
          generalize W7.setCells sb 0 (St8 t2).toList = W8 at *
          go_wp2
          go_roundw
          case rel =>
            refine ⟨k + 1, p + 64, ?_, by go_num, ?_, hp64, ?_⟩
            · have := unhide HPK; have := unhide HNN; omega
            · have := unhide HPK; exact hide (by omega)
            · rw [unhide HX]; exact hide (unhide HP7)
          case measure => simp [RowKit.intOf]; omega
        · have hkk : k = N := by have := unhide HPK; have := unhide HNN; omega
          have HTT : Hid (Sha.blocks k Sha.start L = Sha.absorb L) := by rw [hkk]; exact (absorb_blocks L N (by rw [unhide HLN]; exact unhide HNN)).symm
          have HQ : Hid (Below b w wr ∧ wr.heap[b]? = some (.cells Z32 71 (0, 0)) ∧ wr.heap[sb]? = some (.cells (St8 (Sha.absorb L)) 90 (0, 0)) ∧ b + 1 ≤ sb ∧ sb < wr.heap.size) := by
            have hP := unhide HP
            have hs1 := unhide HS1
            refine ⟨(unhide HB1).trans (hP.1.bel.mono (by omega)), (hP.1.bel.block b (by omega)).trans (unhide HR1), by rw [← unhide HTT]; exact hP.2.1, hP.2.2.2.1, hP.2.2.2.2⟩
          have HOK : Hid (Ok (Sha.absorb L)) := Ok.absorb _
          have HOF : Hid (ofCells s.data.toList = (Lib.byteCells (Sha.told (Sha.absorb L))).toArray) := by
            unfold ofCells Sha.of
            rw [hl, ← unhide HFF, ← unhide HLE]
            exact hide rfl
          clear HP HTT hkk HR1 HB1 HS1
          generalize Sha.absorb L = t at *
          generalize hob : wr.heap.size = ob
          have HOB := hide hob
          clear hob
          go_wp2_with (refine wpList_alloc_row (by rfl) 71 (by rfl) (some 8) (by rfl) ob (by exact unhide HOB) Z32 zeroS ?_; intro W9 HR9 HB9 HS9)
          have HJ : Hid (Below b w W9 ∧ W9.heap[b]? = some (.cells Z32 71 (0, 0)) ∧ W9.heap[sb]? = some (.cells (St8 t) 90 (0, 0)) ∧ b + 1 ≤ sb ∧ sb < ob ∧ T32 t W9 ob 0) := by
            have hq := unhide HQ
            have hob := unhide HOB
            have h9 := unhide HB9
            rw [hob] at hq
            refine ⟨hq.1.trans (h9.mono (by omega)), (h9.block b (by omega)).trans hq.2.1, (h9.block sb hq.2.2.2.2).trans hq.2.2.1, hq.2.2.2.1, hq.2.2.2.2, ⟨Z32, unhide HR9, rfl, fun j hj => absurd hj (Nat.not_lt_zero _)⟩⟩
          clear HQ HR9 HB9 HS9 HOB
          go_loopw [9] (fun v wr => ∃ k2 : Nat, k2 ≤ 32 ∧ v = .int .i64 k2 ∧ Hid (Below b w wr ∧ wr.heap[b]? = some (.cells Z32 71 (0, 0)) ∧ wr.heap[sb]? = some (.cells (St8 t) 90 (0, 0)) ∧ b + 1 ≤ sb ∧ sb < ob ∧ T32 t wr ob k2)) (fun v _ => 32 - (RowKit.intOf v).toNat)
          case atStart => exact ⟨0, by omega, rfl, HJ⟩
          case round =>
            clear HJ
            obtain ⟨k2, hk2, rfl, HI⟩ := hrel
            by_cases hlt : k2 < 32
            · have hki : (k2 : Int) < 32 := by omega
              obtain ⟨q, hq⟩ : ∃ q : Nat, q = k2 / 4 := ⟨_, rfl⟩
              obtain ⟨r, hr⟩ : ∃ r : Nat, r = k2 % 4 := ⟨_, rfl⟩
              have hq1 : (k2 : Int) / 4 = (q : Int) := by omega
              have hq8 : (q : Int) < 8 := by omega
              have hc : wr.cell? ⟨sb, q, none⟩ = some (.int .u32 (fld t q : Nat)) := by simp only [World.cell?, (unhide HI).2.2.1]; exact St8_at t q (by omega)
              obtain ⟨⟨v0, hc2⟩, hfz⟩ := (unhide HI).2.2.2.2.2.cell k2 hlt
              have hfl := fld_lt (unhide HOK) q
              have HN : Hid (∀ v, v = .int .u8 (toldB t k2 : Nat) → Below b w (wr.setCell ⟨ob, k2, none⟩ v) ∧ (wr.setCell ⟨ob, k2, none⟩ v).heap[b]? = some (.cells Z32 71 (0, 0)) ∧ (wr.setCell ⟨ob, k2, none⟩ v).heap[sb]? = some (.cells (St8 t) 90 (0, 0)) ∧ b + 1 ≤ sb ∧ sb < ob ∧ T32 t (wr.setCell ⟨ob, k2, none⟩ v) ob (k2 + 1)) := by
                intro v hv
                have hI := unhide HI
                refine ⟨belowCell hI.1 (by show b ≤ ob; omega) _, ?_, ?_, hI.2.2.2.1, hI.2.2.2.2.1, hI.2.2.2.2.2.next hlt v hv⟩
                · rw [Deep.blk_setCell_other _ _ _ _ (by show b ≠ ob; omega)]; exact hI.2.1
                · rw [Deep.blk_setCell_other _ _ _ _ (by show sb ≠ ob; omega)]; exact hI.2.2.1
              have HT : Hid (toldB t k2 = fld t q / 2 ^ (24 - r * 8) % 256) := by unfold toldB; rw [← hq, ← hr]; exact hide rfl
              have hr4 : r < 4 := by omega
              generalize fld t q = y at *
              clear HI hq
              have hcase : r = 0 ∨ r = 1 ∨ r = 2 ∨ r = 3 := by omega
              rcases hcase with rfl | rfl | rfl | rfl
              · have hr1 : (k2 : Int) % 4 = 0 := by omega
                have HT0 : Hid (toldB t k2 = y / 16777216 % 256) := unhide HT
                clear hr hr4 HT
                go_wp2
                exact ⟨⟨k2 + 1, by omega, by go_num, hide (unhide HN _ (by rw [unhide HT0]; congr 1 <;> omega))⟩, by simp [RowKit.intOf]; omega⟩
              · have hr1 : (k2 : Int) % 4 = 1 := by omega
                have HT0 : Hid (toldB t k2 = y / 65536 % 256) := unhide HT
                clear hr hr4 HT
                go_wp2
                exact ⟨⟨k2 + 1, by omega, by go_num, hide (unhide HN _ (by rw [unhide HT0]; congr 1 <;> omega))⟩, by simp [RowKit.intOf]; omega⟩
              · have hr1 : (k2 : Int) % 4 = 2 := by omega
                have HT0 : Hid (toldB t k2 = y / 256 % 256) := unhide HT
                clear hr hr4 HT
                go_wp2
                exact ⟨⟨k2 + 1, by omega, by go_num, hide (unhide HN _ (by rw [unhide HT0]; congr 1 <;> omega))⟩, by simp [RowKit.intOf]; omega⟩
              · have hr1 : (k2 : Int) % 4 = 3 := by omega
                have HT0 : Hid (toldB t k2 = y / 1 % 256) := unhide HT
                clear hr hr4 HT
                go_wp2
                exact ⟨⟨k2 + 1, by omega, by go_num, hide (unhide HN _ (by rw [unhide HT0]; congr 1 <;> omega))⟩, by simp [RowKit.intOf]; omega⟩
            · have hkk : k2 = 32 := by omega
              subst hkk
              have h1 := (unhide HI).2.2.2.2.2.whole
              have h2 := (unhide HI).2.1
              rw [← show ofCells s.data.toList = _ from unhide HOF] at h1
              have hsi := ofCells_info s.data.toList
              go_wp2_with (first | (refine wpList_load_row rfl 71 (.tmp 8) rfl ob rfl 71 (ofCells s.data.toList) (0, 0) _ h1 hus rfl hsi ?_) | (refine wpList_store_u1 rfl 71 (.tmp 2) (.tmp 59) rfl b (ofCells s.data.toList) rfl rfl 71 Z32 h2 hsi (by rw [ofCells_size]; rfl) (ofCells_one _) ?_; intro WA HRA HUA))
              refine bodyPost_ret (results_cell_row rfl _ _ b 71 (ofCells s.data.toList) (0, 0) _ rfl (unhide HRA) hus rfl hsi) rfl ?_
              have hbw := unhide HBW
              have hI := unhide HI
              refine ⟨rfl, ?_⟩
              rw [← hbw]
              exact hI.1.trans ((unhide HUA).toBelow (by have := (Array.getElem?_eq_some_iff.1 h2).1; omega) (Nat.le_refl _))
end Go.Proofs.Ytopabadnbelegaa.D
