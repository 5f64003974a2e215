/- Hexadecimal digits: Hex by the document. -/
import Derived.Test.YtpbifpbblinopaaHxF
import Derived.Deep.RegionLaw
namespace Go.Proofs.Ytpbifpbblinopaa
open Go.RowKit

theorem step_put {P : Program} {ops : Array Oper} {o : Oper} {a : Act} {w : World} {K : Act → World → Prop} {Q : Exit → Act → World → Prop} {E : Prop}
    (hg : o.guard = none) (s x : Operand) (t : TypeId) (hop : o.op = Op.call { callee := Callee.builtin Builtin.append, args := #[s, x], argTypes := #[t, t] })
    (base : Nat) (e : TypeId) (i : TypeInfo) (z : Value) (size bytes : Nat) (ht : P.underlying t = some (.slice e)) (hi : P.info? e = some i) (hz : i.zero = some z)
    (hsize : i.size = size) (hby : i.bytes = bytes) (hzs : z.cells.size = size) (hsz : 0 < size)
    (v : Value) (n : Nat) (xs : List Value) (hs : a.eval s = v) (hown : w.ownsRow base e size v n xs)
    (ad : Addr) (m c : Nat) (news : List Value) (hx : a.eval x = .slice (some ad) m c) (hl : news.length = m * size) (hnews : ∀ j u, news[j]? = some u → w.cell? (ad.add j) = some u) (h1 : ∀ u ∈ news, u.oneCell' = true)
    (h63 : n + m ≤ maxLen) (hbytes : (n + m) * bytes ≤ 140737488355328) (hbase : base ≤ w.heap.size)
    (hK : ∀ v' w', w'.ownsRow base e size v' (n + m) (xs ++ news) → w.grownBy w' v.ownBlock → NewRow w v v' → K (a.put o.dst v') w') :
    if Region.wanted o (yielded ops a.tmps) = true then Oper.wp P o a w K Q else E := by
  have hw : Region.wanted o (yielded ops a.tmps) = true := by simp [Region.wanted, hg]
  rw [if_pos hw]
  obtain ⟨v', w', hr, h2, h3, h4⟩ := run_append_own' (P := P) w base t o.type e i z size bytes ht hi hz hsize hby hzs hsz v n xs hown ad m c news hl hnews h1 h63 hbytes hbase
  unfold Oper.wp
  simp only [execOp, hop, resolve, invoke, builtin, Sem.run_bind, Sem.run_pure, Result.andThen_ok, List.map_toArray, List.map_cons, List.map_nil, hs, hx, hr]
  exact hK v' w' h2 h3 h4
theorem belowDrewN' {B : Nat} {a w : World} (h : Below B a w) (n : Nat) : Below B a (w.drewN n) := ⟨h.os, h.tape, h.output, h.size, h.block⟩
theorem owns_shape {w : World} {base : Nat} {e : TypeId} {size : Nat} {v : Value} {n : Nat} {xs : List Value} (h : w.ownsRow base e size v n xs) : ∃ ao cap, v = .slice ao n cap := by
  rcases h.2 with ⟨hv, rfl⟩ | ⟨g, cap, cur, hv, _⟩
  · exact ⟨none, 0, hv⟩
  · exact ⟨some ⟨g, 0, none⟩, cap, hv⟩
/-- a row of bytes of one's own -/
def OwnB (w wr : World) (v : Value) (bs : List UInt8) : Prop := wr.ownsRow w.heap.size 5 1 v bs.length (Lib.byteCells bs) ∧ Below w.heap.size w wr
theorem OwnB.block {w wr : World} {v : Value} {bs : List UInt8} (h : OwnB w wr v bs) {g : Nat} (hg : v.ownBlock = some g) : w.heap.size ≤ g := by
  rcases h.1.2 with ⟨hv, _⟩ | ⟨g', cap, cur, hv, hb, _⟩
  · rw [hv] at hg; cases hg
  · rw [hv] at hg; cases hg; exact hb
theorem OwnB.grow {w wr w1 u : World} {v v' : Value} {bs news : List UInt8} {xs : List Value} (h : OwnB w wr v bs) (hb : Below w.heap.size w u) (hx : xs = Lib.byteCells news) (ho : w1.ownsRow w.heap.size 5 1 v' (bs.length + news.length) (Lib.byteCells bs ++ xs)) (hg : u.grownBy w1 v.ownBlock) : OwnB w w1 v' (bs ++ news) := by
  subst hx
  refine ⟨by rw [bc_append, List.length_append]; exact ho, ?_⟩
  obtain ⟨g1, g2, g3, g4, g5⟩ := hg
  refine ⟨g1.trans hb.os, g2.trans hb.tape, g3.trans hb.output, Nat.le_trans hb.size g4, fun k hk => ?_⟩
  rw [← hb.block k hk]
  refine g5 k (Nat.lt_of_lt_of_le hk hb.size) fun e => ?_
  have := h.block e.symm
  omega
theorem OwnB.drewN {w wr : World} {v : Value} {bs : List UInt8} (h : OwnB w wr v bs) (n : Nat) : OwnB w (wr.drewN n) v bs := ⟨h.1, ⟨h.2.os, h.2.tape, h.2.output, h.2.size, h.2.block⟩⟩
theorem own_run {w wr : World} {bs : List UInt8} {ao : Option Addr} {n cap : Nat} (h : OwnB w wr (.slice ao n cap) bs) (hn : n = bs.length) :
    (convert 24 9 (.slice ao n cap)).run Try.prog wr = .ok (.string ⟨bs.toArray⟩) wr := by
  subst hn
  rcases h.1.2 with ⟨e, hn⟩ | ⟨g, cap', cur, e, _⟩
  · have hb : bs = [] := List.eq_nil_of_length_eq_zero hn
    subst hb
    cases e
    exact run_convert_bytes_nil wr 24 5 Try.underlying24 Try.underlying5 _ _ 9 Try.underlying9
  · cases e
    refine run_convert_bytes_back wr 24 9 5 ⟨g, 0, none⟩ cap bs Try.underlying24 Try.underlying5 Try.underlying9 fun j hj => ?_
    refine h.1.cells rfl j _ ?_
    simp [Lib.byteCells, hj]
set_option maxRecDepth 100000 in
set_option maxHeartbeats 1000000 in
theorem mHex (s : ByteArray) (w : World) (hs : 2 * s.size + 2 ≤ 140737488355328) :
    Calls Try.prog 36 #[.string s] w fun e w' => e = .returned (.string ⟨(hexS s.data.toList).toArray⟩) ∧ Below w.heap.size w w' := by
  obtain ⟨i0, hi, hz0, hz1, hz2⟩ := info_parts infoU8
  go_enter Try.func36, Try.ntmps36
  go_wp2
  go_loopw [3, 4] (fun y i wr => ∃ (k : Nat) (ao : Option Addr) (cap : Nat), k ≤ s.size ∧ i = .int .i64 k ∧ y = .slice ao (2 * k) cap ∧ Hid (OwnB w wr (.slice ao (2 * k) cap) (hexS (s.data.toList.take k)))) (fun _ i _ => s.size - (intOf i).toNat)
  case atStart => exact ⟨0, none, 0, Nat.zero_le _, rfl, rfl, hide ⟨World.ownsRow_nil _ _ _ _, Below.refl _ _⟩⟩
  case round =>
    obtain ⟨k, ao, cap, hk, rfl, rfl, HI⟩ := hrel
    by_cases hlt : k < s.size
    · have hb := s[k].toNat_lt
      have hL : Hid ((hexS (s.data.toList.take k)).length = 2 * k) := by
        show List.length _ = _
        rw [hexS_length, List.length_take]
        have : s.data.toList.length = s.size := rfl
        omega
      obtain ⟨m1, hm1⟩ : ∃ m, m = s[k].toNat / 16 := ⟨_, rfl⟩
      obtain ⟨m2, hm2⟩ : ∃ m, m = s[k].toNat % 16 := ⟨_, rfl⟩
      have hsn : Hid (hexS (s.data.toList.take (k + 1)) = hexS (s.data.toList.take k) ++ [dig m1, dig m2]) := by
        show hexS _ = _
        rw [take_snoc' s k hlt, hexS_snoc, hm1, hm2]; simp
      have hd1 := fun u => run_dig m1 u (by omega)
      have hd2 := fun u => run_dig m2 u (by omega)
      have hki : (k : Int) < (s.size : Int) := by omega
      have hq1 : (s[k].toNat : Int).tdiv 16 = (m1 : Int) := by rw [Int.tdiv_eq_ediv_of_nonneg (by omega)]; omega
      have hq2 : (s[k].toNat : Int) / 16 = (m1 : Int) := by omega
      have hr1 : (s[k].toNat : Int).tmod 16 = (m2 : Int) := by rw [Int.tmod_eq_emod_of_nonneg (by omega)]; omega
      have hr2 : (s[k].toNat : Int) % 16 = (m2 : Int) := by omega
      have hbi : (s[k].toNat : Int) < 256 := by omega
      have hbi0 : (0 : Int) ≤ (s[k].toNat : Int) := by omega
      have hw1 : IntKind.u8.wrap (m1 : Int) = (m1 : Int) := by rw [IntKind.wrap_u8]; omega
      have hw2 : IntKind.u8.wrap (m2 : Int) = (m2 : Int) := by rw [IntKind.wrap_u8]; omega
      have HO : Hid (wr.ownsRow w.heap.size 5 1 (.slice ao (2 * k) cap) (2 * k) (Lib.byteCells (hexS (s.data.toList.take k)))) := by
        have := (unhide HI).1
        rw [unhide hL] at this
        exact this
      clear hb hm1 hm2
      go_wp2
      go_region_law (refine step_put rfl (.tmp 11) (.tmp 22) 24 rfl w.heap.size 5 i0 (.int .u8 0) 1 1 Try.underlying24 hi hz0 hz1 hz2 rfl (by decide) (.slice ao (2 * k) cap) (2 * k) _ (by simp [Act.eval]) ((unhide HO).alloc _) ⟨wr.heap.size, 0, none⟩ 2 2 [.int .u8 ((dig m1).toNat : Int), .int .u8 ((dig m2).toNat : Int)] (by simp [Act.eval]) rfl (by intro j u hj; match j, hj with | 0, hj => (simp at hj; subst hj; simp [Addr.add]) | 1, hj => (simp at hj; subst hj; simp [Addr.add])) (by intro u hu; simp at hu; rcases hu with hu | hu <;> (subst hu; rfl)) (by unfold maxLen; omega) (by omega) (by have := (unhide HI).2.size; simp; omega) ?_; intro v' w1 hown' hg' _)
      all_goals
        have HN := hide (OwnB.grow (news := [dig m1, dig m2]) (unhide HI) (belowDrewN' ((unhide HI).2.alloc (unhide HI).2.size _) 1) rfl (by rw [unhide hL]; exact hown') hg')
        obtain ⟨ao', cap', rfl⟩ := owns_shape hown'
        clear hown' hg'
        go_wp2
        go_roundw
        case rel =>
          refine ⟨k + 1, ao', cap', by omega, by go_num, rfl, hide ?_⟩
          rw [show hexS (s.data.toList.take (k + 1)) = _ from unhide hsn]
          exact unhide HN
        case measure => simp [intOf]; omega
    · have hkk : k = s.size := by omega
      subst hkk
      have he : Hid (s.data.toList.take s.size = s.data.toList) := List.take_of_length_le (Nat.le_refl _)
      have hrun := own_run (unhide HI) (by rw [hexS_length, show s.data.toList.take s.size = s.data.toList from unhide he]; rfl)
      go_wp2
      go_ret
      exact ⟨by rw [show s.data.toList.take s.size = s.data.toList from unhide he]; rfl, (unhide HI).2⟩
end Go.Proofs.Ytpbifpbblinopaa
