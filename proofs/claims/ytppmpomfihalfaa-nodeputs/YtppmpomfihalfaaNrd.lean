/- Nodes, the document's side: the keys of a node. -/
import Derived.Test.YtppmpomfihalfaaNt
import Derived.Test.YtppmpomfihalfaaNrc
namespace Go.Proofs.Ytppmpomfihalfaa
open Go.RowKit

theorem undSt : Try.prog.underlying 23 = some (.slice 9) := by kernel_rfl
theorem str_parts : ∃ i, Try.prog.info? 9 = some i ∧ i.zero = some (.string ⟨#[]⟩) ∧ i.size = 1 ∧ i.bytes = 16 := by
  have h : (Try.prog.info? 9).map (fun i => (i.zero, i.size, i.bytes)) = some (some (.string ⟨#[]⟩), 1, 16) := by kernel_rfl
  obtain ⟨i, hi, h2⟩ := Option.map_eq_some_iff.1 h
  simp only [Prod.mk.injEq] at h2
  exact ⟨i, hi, h2⟩
theorem one_new (W : World) (a : Value) (t : TypeId) : ∀ j u, [a][j]? = some u → (W.alloc (.cells #[a] t)).cell? ((⟨W.heap.size, 0, none⟩ : Addr).add j) = some u := by
  intro j u hu
  have h := heap_alloc_new W (.cells #[a] t)
  rw [Addr.add_mid, Nat.zero_add]
  simp only [World.cell?, h]
  simpa using hu
/-- a box and a list of texts that grows -/
structure Ky (u wr : World) (N : Nat) (bx : Obj) (L : List ByteArray) (k : Nat) (v : Value) : Prop where
  bel : Below N u wr
  box : wr.heap[N]? = some bx
  own : wr.ownsRow (N + 1) 9 1 v k (flatK (L.take k))
theorem Ky.put {u wr w2 : World} {N : Nat} {bx : Obj} {L : List ByteArray} {k : Nat} {v v' : Value} {q : ByteArray} {o : Obj} (h : Ky u wr N bx L k v) (hq : L[k]? = some q) (hg : (wr.alloc o).grownBy w2 v.ownBlock) (ho : w2.ownsRow (N + 1) 9 1 v' (k + 1) (flatK (L.take k) ++ [.string q])) : Ky u w2 N bx L (k + 1) v' := by
  have hN := (Array.getElem?_eq_some_iff.1 h.box).1
  have hb : Below (N + 1) wr w2 := ((Below.refl (N + 1) wr).alloc (by omega) o).grown hg (by simp; omega) (fun k hk => (own_lt' h.own hk).1)
  refine ⟨h.bel.trans (hb.mono (Nat.le_succ _)), (hb.block N (Nat.lt_succ_self _)).trans h.box, ?_⟩
  have e : L.take (k + 1) = L.take k ++ [q] := by rw [List.take_add_one, hq]; rfl
  rw [e]
  simpa [flatK] using ho
theorem own_lies {w : World} {base : Nat} {e : TypeId} {ao : Option Addr} {n cp : Nat} {xs : List Value} (h : w.ownsRow base e 1 (.slice ao n cp) n xs) : Lies w ao xs := fun h0 => by
  have hlen := h.1
  rcases h.2 with ⟨_, hn⟩ | ⟨g, cap, cur, hv, h1, h2, h3, h4, h5, h6⟩
  · rw [hlen, hn] at h0; simp at h0
  · cases hv
    refine ⟨g, 0, rfl, fun j x hx => ?_⟩
    simp only [World.cell?, h2, Nat.zero_add]
    rw [← h6] at hx
    rw [List.getElem?_take] at hx
    split at hx
    · simpa using hx
    · cases hx
set_option maxRecDepth 100000 in
set_option maxHeartbeats 4000000 in
theorem rKeys (n : Nd) (a : Nv) (u : World) (h : NdAt u n a) (hb : n.cells.length + n.keys.length ≤ 8796093022208) : Calls Try.prog 76 #[a.v n] u fun e u' => ∃ ao cp, e = .returned (.slice ao (n.cells.map Cl.key ++ n.keys).length cp) ∧ Below u.heap.size u u' ∧ Lies u' ao (flatK (n.cells.map Cl.key ++ n.keys)) := by
  obtain ⟨N, hN⟩ : ∃ N, N = u.heap.size := ⟨_, rfl⟩
  have HN := hide hN
  rw [← hN]
  clear hN
  obtain ⟨ca, cc, ka, kc, ga, gc⟩ := a
  obtain ⟨lf, cs, ks, gs⟩ := n
  show Calls Try.prog 76 #[.agg #[.bool lf, .slice ca cs.length cc, .slice ka ks.length kc, .slice ga gs.length gc]] u fun e u' => ∃ ao cp, e = .returned (.slice ao (cs.map Cl.key ++ ks).length cp) ∧ Below N u u' ∧ Lies u' ao (flatK (cs.map Cl.key ++ ks))
  replace hb : cs.length + ks.length ≤ 8796093022208 := hb
  have HC : Hid (Lies u ca (flatC cs)) := h.cells
  have HK : Hid (Lies u ka (flatK ks)) := h.keys
  clear h
  obtain ⟨L, hL⟩ : ∃ L, L = cs.map Cl.key ++ ks := ⟨_, rfl⟩
  rw [← hL]
  obtain ⟨cn, hcn⟩ : ∃ cn, cn = cs.length := ⟨_, rfl⟩
  obtain ⟨kn, hkn⟩ : ∃ kn, kn = ks.length := ⟨_, rfl⟩
  have HCN := hide hcn
  have HKN := hide hkn
  have HLN : Hid (L.length = cn + kn) := hide (by rw [hL, hcn, hkn, List.length_append, List.length_map])
  have HL1 : Hid (∀ k (hk : k < cs.length), L[k]? = some cs[k].key) := fun k hk => by rw [hL, List.getElem?_append_left (by rw [List.length_map]; exact hk)]; simp [hk]
  have HL2 : Hid (∀ m (hm : m < ks.length), L[cn + m]? = some ks[m]) := fun m hm => by rw [hL, List.getElem?_append_right (by rw [List.length_map, hcn]; omega), List.length_map, hcn]; simp [hm]
  rw [← hcn, ← hkn] at hb ⊢
  generalize gs.length = gn at *
  have hbi : (cn : Int) + (kn : Int) ≤ 8796093022208 := by omega
  obtain ⟨i0, hi, hz0, hz1, hz2⟩ := str_parts
  have HCI := hide (And.intro hi (And.intro hz0 (And.intro hz1 hz2)))
  clear hcn hkn hi hz0 hz1 hz2 hL
  go_enter Try.func76, Try.ntmps76
  go_wp2_with (first
    | (with_reducible refine wpList_box_node (by rfl) (.tmp 0) (by rfl) (some 1) (by rfl) N (unhide HN) lf ca cn cc ka kn kc ga gn gc (by with_unfolding_all rfl) ?_; intro W1 HX1 HB1 HS1; simp only [Act.put, List.setIfInBounds_toArray, List.set_cons_zero, List.set_cons_succ]; obtain ⟨y0, y1, y2, y3⟩ := box4 (unhide HX1))
    | fail)
  go_loopw [3, 4] (fun v i wr => ∃ (k : Nat) (ao : Option Addr) (cp : Nat), k ≤ cn ∧ v = .slice ao k cp ∧ i = .int .i64 k ∧ Hid (Ky u wr N (.cells #[.bool lf, .slice ca cn cc, .slice ka kn kc, .slice ga gn gc] 26 (0, 0)) L k (.slice ao k cp))) (fun _ i _ => cn - (intOf i).toNat)
  case atStart => exact ⟨0, none, 0, Nat.zero_le _, rfl, rfl, unhide HB1, unhide HX1, World.ownsRow_nil _ _ _ _⟩
  case round =>
    clear HX1 HB1 HS1 y0 y1 y2 y3
    obtain ⟨k, ao, cp, hk, rfl, rfl, HI⟩ := hrel
    obtain ⟨y0, y1, y2, y3⟩ := box4 (unhide HI).box
    have HZ6 : Hid (N + 1 ≤ wr.heap.size) := (Array.getElem?_eq_some_iff.1 (unhide HI).box).1
    have HO6 := hide (unhide HI).own
    by_cases hlt : k < cn
    · have hki : (k : Int) < (cn : Int) := by omega
      have hkl : k < cs.length := by rw [← unhide HCN]; exact hlt
      have hbw : Below u.heap.size u wr := by rw [← unhide HN]; exact (unhide HI).bel
      obtain ⟨g, o, hao, hc, hv⟩ := ((unhide HC).below hbw).cl hkl
      subst hao
      have hix := ixCells g o cn cc k hlt
      have HLQ := hide (unhide HL1 k hkl)
      clear hbw hv
      generalize cs[k].key = q at *
      clear hkl
      generalize o + k * 2 = j2 at *
      go_wp2_with (first
        | (at_builtin; refine W.wpList_put _ rfl (.tmp 13) (.tmp 20) 23 rfl (N + 1) 9 i0 (.string ⟨#[]⟩) 1 16 undSt (unhide HCI).1 (unhide HCI).2.1 (unhide HCI).2.2.1 (unhide HCI).2.2.2 rfl (by decide) (.slice ao k cp) k (flatK (L.take k)) rfl ((unhide HO6).alloc _) ⟨_, 0, none⟩ 1 1 [.string q] rfl rfl (one_new _ _ _) (by simp [Value.oneCell']) (by simp only [maxLen]; omega) (by omega) (by simp; have := unhide HZ6; omega) ?_; intro v' w10 hown' hgrow hnew; clear hnew; obtain ⟨ao2, cp2, rfl⟩ := W.owns_shape hown'; have HI7 := hide ((unhide HI).put (unhide HLQ) hgrow hown'); clear hown' hgrow)
        | fail)
      clear y0 y1 y2 y3 HO6 HI
      go_wp2
      go_roundw
      case rel => exact ⟨k + 1, ao2, cp2, by omega, rfl, by go_num, unhide HI7⟩
      case measure => simp [intOf]; omega
    · obtain rfl : k = cn := by omega
      have hki : ¬ (k : Int) < (k : Int) := by omega
      clear HO6
      go_wp2_with fail
      go_loopw [3, 5] (fun v i wq => ∃ (m : Nat) (ao : Option Addr) (cp : Nat), m ≤ kn ∧ v = .slice ao (k + m) cp ∧ i = .int .i64 m ∧ Hid (Ky u wq N (.cells #[.bool lf, .slice ca k cc, .slice ka kn kc, .slice ga gn gc] 26 (0, 0)) L (k + m) (.slice ao (k + m) cp))) (fun _ i _ => kn - (intOf i).toNat)
      case atStart => exact ⟨0, ao, cp, Nat.zero_le _, rfl, rfl, unhide HI⟩
      case round =>
        clear HI HZ6 y0 y1 y2 y3
        obtain ⟨m, ao, cp, hm, rfl, rfl, HI⟩ := hrel
        obtain ⟨y0, y1, y2, y3⟩ := box4 (unhide HI).box
        by_cases hmt : m < kn
        · have hmi : (m : Int) < (kn : Int) := by omega
          have hml : m < ks.length := by rw [← unhide HKN]; exact hmt
          have hbw : Below u.heap.size u wr := by rw [← unhide HN]; exact (unhide HI).bel
          obtain ⟨g, o, hao, hc⟩ := ((unhide HK).below hbw).ky hml
          subst hao
          have hix := ixStrs g o kn kc m hmt
          have HLQ := hide (unhide HL2 m hml)
          have HZ6 : Hid (N + 1 ≤ wr.heap.size) := (Array.getElem?_eq_some_iff.1 (unhide HI).box).1
          have HO6 := hide (unhide HI).own
          clear hbw
          generalize ks[m] = q at *
          clear hml
          generalize o + m = j2 at *
          go_wp2_with (first
            | (at_builtin; refine W.wpList_put _ rfl (.tmp 29) (.tmp 35) 23 rfl (N + 1) 9 i0 (.string ⟨#[]⟩) 1 16 undSt (unhide HCI).1 (unhide HCI).2.1 (unhide HCI).2.2.1 (unhide HCI).2.2.2 rfl (by decide) (.slice ao (k + m) cp) (k + m) (flatK (L.take (k + m))) rfl ((unhide HO6).alloc _) ⟨_, 0, none⟩ 1 1 [.string q] rfl rfl (one_new _ _ _) (by simp [Value.oneCell']) (by simp only [maxLen]; omega) (by omega) (by simp; have := unhide HZ6; omega) ?_; intro v' w10 hown' hgrow hnew; clear hnew; obtain ⟨ao2, cp2, rfl⟩ := W.owns_shape hown'; have HI7 := hide ((unhide HI).put (unhide HLQ) hgrow hown'); clear hown' hgrow)
            | fail)
          clear y0 y1 y2 y3 HO6 HI
          go_wp2
          go_roundw
          case rel => exact ⟨m + 1, ao2, cp2, by omega, rfl, by go_num, unhide HI7⟩
          case measure => simp [intOf]; omega
        · obtain rfl : m = kn := by omega
          have hmi : ¬ (m : Int) < (m : Int) := by omega
          have HE : Hid (Below N u wr ∧ Lies wr ao (flatK L) ∧ L.length = k + m) := by
            have ho := (unhide HI).own
            rw [List.take_of_length_le (by rw [unhide HLN]; exact Nat.le_refl _)] at ho
            exact ⟨(unhide HI).bel, own_lies ho, unhide HLN⟩
          go_wp2
          go_ret
          exact ⟨ao, ⟨cp, congrArg (fun n => Ending.returned (.slice ao n cp)) (unhide HE).2.2.symm⟩, (unhide HE).1, (unhide HE).2.1⟩
end Go.Proofs.Ytppmpomfihalfaa
