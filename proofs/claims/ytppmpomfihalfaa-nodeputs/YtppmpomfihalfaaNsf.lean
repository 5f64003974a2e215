/- Nodes: spoil: what was answered is written over, and what stands behind it. -/
import Derived.Test.YtppmpomfihalfaaNrx
namespace Go.Proofs.Ytppmpomfihalfaa
open Go.RowKit

/-- while lists grow: all but their blocks lies as it lay -/
structure Sp (u w : World) (b : Nv) (va vb vc : Value) (na nb nc : Nat) : Prop where
  up : Upb u w b
  ra : ∃ xs, w.ownsRow 0 66 2 va na xs
  rb : ∃ xs, w.ownsRow 0 9 1 vb nb xs
  rc : ∃ xs, w.ownsRow 0 50 1 vc nc xs
  fa : ∀ g, va.ownBlock = some g → b.blk g ∨ u.heap.size ≤ g
  fb : ∀ g, vb.ownBlock = some g → b.blk g ∨ u.heap.size ≤ g
  fc : ∀ g, vc.ownBlock = some g → b.blk g ∨ u.heap.size ≤ g
theorem Upb.grown {u w w2 : World} {b : Nv} {o : Obj} {v : Value} (h : Upb u w b) (hf : ∀ g, v.ownBlock = some g → b.blk g ∨ u.heap.size ≤ g) (hg : (w.alloc o).grownBy w2 v.ownBlock) : Upb u w2 b := by
  have hs : (w.alloc o).heap.size = w.heap.size + 1 := by simp
  have hz := h.size
  refine ⟨hg.os.trans h.os, hg.tape.trans h.tape, hg.output.trans h.output, ?_, fun x hx hn => ?_⟩
  · have := hg.size
    omega
  · rw [hg.block x (by omega) (fun e => by
      rcases hf x e.symm with h1 | h1
      · exact hn h1
      · omega), heap_alloc_old w o (by omega)]
    exact h.block x hx hn
theorem far_new {u w : World} {b : Nv} {o : Obj} {v v' : Value} (hz : u.heap.size ≤ w.heap.size) (hf : ∀ g, v.ownBlock = some g → b.blk g ∨ u.heap.size ≤ g) (hn : W.NewRow (w.alloc o) v v') : ∀ g, v'.ownBlock = some g → b.blk g ∨ u.heap.size ≤ g := by
  intro g hg
  rcases hn with h1 | ⟨g', h1, h2⟩
  · exact hf g (by rw [← h1]; exact hg)
  · rw [hg] at h1
    cases h1
    have hs : (w.alloc o).heap.size = w.heap.size + 1 := by simp
    exact .inr (by omega)
theorem Sp.putA {u w w2 : World} {b : Nv} {va vb vc va' : Value} {na nb nc : Nat} {o : Obj} {xs : List Value} (h : Sp u w b va vb vc na nb nc) (hg : (w.alloc o).grownBy w2 va.ownBlock) (ho : w2.ownsRow 0 66 2 va' (na + 1) xs) (hn : W.NewRow (w.alloc o) va va') : Sp u w2 b va' vb vc (na + 1) nb nc := by
  obtain ⟨x, ha⟩ := h.ra
  obtain ⟨y, hb⟩ := h.rb
  obtain ⟨z, hc⟩ := h.rc
  exact ⟨h.up.grown h.fa hg, ⟨_, ho⟩, ⟨_, (hb.alloc o).kept hg (own_ne hb ha (by decide))⟩, ⟨_, (hc.alloc o).kept hg (own_ne hc ha (by decide))⟩, far_new h.up.size h.fa hn, h.fb, h.fc⟩
theorem Sp.putB {u w w2 : World} {b : Nv} {va vb vc vb' : Value} {na nb nc : Nat} {o : Obj} {xs : List Value} (h : Sp u w b va vb vc na nb nc) (hg : (w.alloc o).grownBy w2 vb.ownBlock) (ho : w2.ownsRow 0 9 1 vb' (nb + 1) xs) (hn : W.NewRow (w.alloc o) vb vb') : Sp u w2 b va vb' vc na (nb + 1) nc := by
  obtain ⟨x, ha⟩ := h.ra
  obtain ⟨y, hb⟩ := h.rb
  obtain ⟨z, hc⟩ := h.rc
  exact ⟨h.up.grown h.fb hg, ⟨_, (ha.alloc o).kept hg (own_ne ha hb (by decide))⟩, ⟨_, ho⟩, ⟨_, (hc.alloc o).kept hg (own_ne hc hb (by decide))⟩, h.fa, far_new h.up.size h.fb hn, h.fc⟩
theorem Sp.putC {u w w2 : World} {b : Nv} {va vb vc vc' : Value} {na nb nc : Nat} {o : Obj} {xs : List Value} (h : Sp u w b va vb vc na nb nc) (hg : (w.alloc o).grownBy w2 vc.ownBlock) (ho : w2.ownsRow 0 50 1 vc' (nc + 1) xs) (hn : W.NewRow (w.alloc o) vc vc') : Sp u w2 b va vb vc' na nb (nc + 1) := by
  obtain ⟨x, ha⟩ := h.ra
  obtain ⟨y, hb⟩ := h.rb
  obtain ⟨z, hc⟩ := h.rc
  exact ⟨h.up.grown h.fc hg, ⟨_, (ha.alloc o).kept hg (own_ne ha hc (by decide))⟩, ⟨_, (hb.alloc o).kept hg (own_ne hb hc (by decide))⟩, ⟨_, ho⟩, h.fa, h.fb, far_new h.up.size h.fc hn⟩
theorem own_blk {w : World} {B e size : Nat} {ao : Option Addr} {n cp g : Nat} {xs : List Value} (h : w.ownsRow B e size (.slice ao n cp) n xs) (hg : (Value.slice ao n cp).ownBlock = some g) : ao = some ⟨g, 0, none⟩ := by
  rcases h.2 with ⟨h1, _⟩ | ⟨g', cap, cur, hv, _⟩
  · cases h1; cases hg
  · cases hv; cases hg; rfl
set_option maxRecDepth 100000 in
set_option maxHeartbeats 8000000 in
theorem lSpoil (n : Nd) (b : Nv) (B : Nat) (u : World) (hl : Ow u B n.cells n.keys n.kids b) (hb : n.Few) (hst : ∀ c ∈ n.cells, c.key.size ≤ 140737488355328 ∧ c.val.size ≤ 140737488355328) (hkd : ∀ k ∈ n.kids, k < 4294967296) : Calls Try.prog 28 #[b.v n] u fun e u' => e = .returned (.tuple #[]) ∧ Upb u u' b := by
  have hb1 : (n.cells.length : Int) ≤ 4398046510976 := by have := hb.1; omega
  have hb2 : (n.keys.length : Int) ≤ 8796093021952 := by have := hb.2.1; omega
  have hb3 : (n.kids.length : Int) ≤ 35184372087808 := by have := hb.2.2; omega
  have HST : Hid (∀ (w : World), Below u.heap.size u w → ∀ bx, w.heap[u.heap.size]? = some (.cells bx 26 (0, 0)) → Ovs u w u.heap.size bx B b n.cells.length n.keys.length n.kids.length n.cells n.keys n.kids) := fun w hw bx hx =>
    ⟨⟨(Upb.refl u b).of_below hw, hx, own_keep hl.c (fun g hg => hw.block g (hl.c.lt g hg).2), own_keep hl.k (fun g hg => hw.block g (hl.k.lt g hg).2), own_keep hl.g (fun g hg => hw.block g (hl.g.lt g hg).2)⟩, rfl, rfl, rfl, hst, hkd⟩
  have HSP : Hid (∀ (w : World) (N : Nat) (bx : Array Value) (cs : List Cl) (ks : List ByteArray) (gs : List Nat), Ovs u w N bx B b n.cells.length n.keys.length n.kids.length cs ks gs → Sp u w b (.slice b.ca n.cells.length b.cc) (.slice b.ka n.keys.length b.kc) (.slice b.ga n.kids.length b.gc) n.cells.length n.keys.length n.kids.length) := fun w N bx cs ks gs h => by
    have h1 := h.o.own.c
    have h2 := h.o.own.k
    have h3 := h.o.own.g
    rw [h.lc] at h1
    rw [h.lk] at h2
    rw [h.lg] at h3
    exact ⟨h.o.up, ⟨_, own_down h1 (Nat.zero_le _)⟩, ⟨_, own_down h2 (Nat.zero_le _)⟩, ⟨_, own_down h3 (Nat.zero_le _)⟩, fun g hg => .inl (.inl ⟨0, own_blk h1 hg⟩), fun g hg => .inl (.inr (.inl ⟨0, own_blk h2 hg⟩)), fun g hg => .inl (.inr (.inr ⟨0, own_blk h3 hg⟩))⟩
  obtain ⟨i0, hi0⟩ := cell_parts
  obtain ⟨i1, hi1⟩ := str_parts
  obtain ⟨i2, hi2⟩ := kid_parts
  have HI0 := hide hi0
  have HI1 := hide hi1
  have HI2 := hide hi2
  obtain ⟨N, hN⟩ : ∃ N, N = u.heap.size := ⟨_, rfl⟩
  have HN := hide hN
  rw [← hN] at HST
  clear hN hl hb hst hkd hi0 hi1 hi2
  rw [Nv.v_eq]
  obtain ⟨da, dc, la, lc, ha, hc⟩ := b
  obtain ⟨lf, LC, LK, LG⟩ := n
  have HST : Hid (∀ (w : World), Below N u w → ∀ bx, w.heap[N]? = some (.cells bx 26 (0, 0)) → Ovs u w N bx B ⟨da, dc, la, lc, ha, hc⟩ LC.length LK.length LG.length LC LK LG) := by rw [unhide HN] at HST ⊢; exact unhide HST
  have HSP : Hid (∀ (w : World) (N : Nat) (bx : Array Value) (cs : List Cl) (ks : List ByteArray) (gs : List Nat), Ovs u w N bx B ⟨da, dc, la, lc, ha, hc⟩ LC.length LK.length LG.length cs ks gs → Sp u w ⟨da, dc, la, lc, ha, hc⟩ (.slice da LC.length dc) (.slice la LK.length lc) (.slice ha LG.length hc) LC.length LK.length LG.length) := unhide HSP
  show Calls Try.prog 28 #[.agg #[.bool lf, .slice da LC.length dc, .slice la LK.length lc, .slice ha LG.length hc]] u _
  have hb1 : (LC.length : Int) ≤ 4398046510976 := hb1
  have hb2 : (LK.length : Int) ≤ 8796093021952 := hb2
  have hb3 : (LG.length : Int) ≤ 35184372087808 := hb3
  generalize LC.length = cn at *
  generalize LK.length = kn at *
  generalize LG.length = gn at *
  go_enter Try.func28, Try.ntmps28
  go_wp2_with (first
    | ((with_reducible refine wpList_box_node (by rfl) (.tmp 0) (by rfl) (some 1) (by rfl) N (unhide HN) lf da cn dc la kn lc ha gn hc (by with_unfolding_all rfl) ?_); intro W0 HX0 HB0 HS0; simp only [Act.put, List.setIfInBounds_toArray, List.set_cons_zero, List.set_cons_succ])
    | fail)
  have HO0 := hide (unhide HST W0 (unhide HB0) _ (unhide HX0))
  clear HST HX0 HB0 HS0
  go_loopw [2] (fun i wr => ∃ (k : Nat) (cs : List Cl), k ≤ cn ∧ i = .int .i64 k ∧ Hid (Ovs u wr N #[.bool lf, .slice da cn dc, .slice la kn lc, .slice ha gn hc] B ⟨da, dc, la, lc, ha, hc⟩ cn kn gn cs LK LG)) (fun i _ => cn - (intOf i).toNat)
  case atStart => exact ⟨0, LC, Nat.zero_le _, rfl, unhide HO0⟩
  case round =>
    clear HO0
    obtain ⟨k, cs, hk, rfl, HI⟩ := hrel
    obtain ⟨y0, y1, y2, y3⟩ := box4 (unhide HI).o.box
    by_cases hlt : k < cn
    · have hki : (k : Int) < (cn : Int) := by omega
      obtain ⟨_, g1, hg1⟩ := own_pos (unhide HI).o.own.c (by rw [(unhide HI).lc]; omega)
      have hg1 : da = some ⟨g1, 0, none⟩ := hg1
      subst hg1
      have hix : ∀ W, (Instr.indexAt 22 (.slice (some ⟨g1, 0, none⟩) cn dc) (.int .i64 (k : Int))).run Try.prog W = .ok (.pointer (some ⟨g1, k * 2, none⟩)) W := fun W => by have := ixCells g1 0 cn dc k hlt W; rwa [Nat.zero_add] at this
      have HTH := hide ((unhide HI).thereC (g := g1) rfl (k := k) hlt)
      have HS5 := hide ((unhide HI).setC (g := g1) rfl k ⟨#[115, 112, 111, 105, 108, 116]⟩ ⟨#[]⟩ (show (6 : Nat) ≤ _ by omega) (show (0 : Nat) ≤ _ by omega))
      go_wp2_with (first
        | (refine wpList_store_mid (by rfl) 66 (.tmp 20) (.tmp 19) (by rfl) g1 (k * 2) #[.string ⟨#[115, 112, 111, 105, 108, 116]⟩, .string ⟨#[]⟩] (by with_unfolding_all rfl) (by with_unfolding_all rfl) (unhide HTH) cellInf2 (by simp [Value.oneCell']) ?_; simp only [Act.put])
        | fail)
      go_wp2
      go_roundw
      case rel => exact ⟨k + 1, _, by omega, by go_num, unhide HS5⟩
      case measure => simp [intOf]; omega
    · obtain rfl : k = cn := by omega
      have hki : ¬ (k : Int) < (k : Int) := by omega
      go_wp2_with fail
      go_loopw [3] (fun i wq => ∃ (m : Nat) (ks : List ByteArray), m ≤ kn ∧ i = .int .i64 m ∧ Hid (Ovs u wq N #[.bool lf, .slice da k dc, .slice la kn lc, .slice ha gn hc] B ⟨da, dc, la, lc, ha, hc⟩ k kn gn cs ks LG)) (fun i _ => kn - (intOf i).toNat)
      case atStart => exact ⟨0, LK, Nat.zero_le _, rfl, unhide HI⟩
      case round =>
        clear HI y0 y1 y2 y3
        obtain ⟨m, ks, hm, rfl, HI⟩ := hrel
        obtain ⟨y0, y1, y2, y3⟩ := box4 (unhide HI).o.box
        by_cases hmt : m < kn
        · have hmi : (m : Int) < (kn : Int) := by omega
          obtain ⟨_, g2, hg2⟩ := own_pos (unhide HI).o.own.k (by rw [(unhide HI).lk]; omega)
          have hg2 : la = some ⟨g2, 0, none⟩ := hg2
          subst hg2
          have hix : ∀ W, (Instr.indexAt 23 (.slice (some ⟨g2, 0, none⟩) kn lc) (.int .i64 (m : Int))).run Try.prog W = .ok (.pointer (some ⟨g2, m, none⟩)) W := fun W => by have := ixStrs g2 0 kn lc m hmt W; rwa [Nat.zero_add] at this
          obtain ⟨x, hx⟩ := (unhide HI).atK (g := g2) rfl (j := m) (by omega)
          have hfz := (unhide HI).frK (g := g2) rfl m
          have HS5 := hide ((unhide HI).setK (g := g2) rfl m ⟨#[115, 112, 111, 105, 108, 116]⟩)
          go_wp2
          go_roundw
          case rel => exact ⟨m + 1, _, by omega, by go_num, unhide HS5⟩
          case measure => simp [intOf]; omega
        · obtain rfl : m = kn := by omega
          have hmi : ¬ (m : Int) < (m : Int) := by omega
          go_wp2_with fail
          go_loopw [4] (fun i wq => ∃ (r : Nat) (gs : List Nat), r ≤ gn ∧ i = .int .i64 r ∧ Hid (Ovs u wq N #[.bool lf, .slice da k dc, .slice la m lc, .slice ha gn hc] B ⟨da, dc, la, lc, ha, hc⟩ k m gn cs ks gs)) (fun i _ => gn - (intOf i).toNat)
          case atStart => exact ⟨0, LG, Nat.zero_le _, rfl, unhide HI⟩
          case round =>
            clear HI y0 y1 y2 y3
            obtain ⟨r, gs, hr, rfl, HI⟩ := hrel
            obtain ⟨y0, y1, y2, y3⟩ := box4 (unhide HI).o.box
            by_cases hrt : r < gn
            · have hri : (r : Int) < (gn : Int) := by omega
              obtain ⟨_, g3, hg3⟩ := own_pos (unhide HI).o.own.g (by rw [(unhide HI).lg]; omega)
              have hg3 : ha = some ⟨g3, 0, none⟩ := hg3
              subst hg3
              have hix : ∀ W, (Instr.indexAt 24 (.slice (some ⟨g3, 0, none⟩) gn hc) (.int .i64 (r : Int))).run Try.prog W = .ok (.pointer (some ⟨g3, r, none⟩)) W := fun W => by have := ixKids g3 0 gn hc r hrt W; rwa [Nat.zero_add] at this
              obtain ⟨x, hx⟩ := (unhide HI).atG (g := g3) rfl (j := r) (by omega)
              have hfz := (unhide HI).frG (g := g3) rfl r
              have HS5 := hide ((unhide HI).setG (g := g3) rfl r 99 (by decide))
              go_wp2
              go_roundw
              case rel => exact ⟨r + 1, _, by omega, by go_num, unhide HS5⟩
              case measure => simp [intOf]; omega
            · obtain rfl : r = gn := by omega
              have hri : ¬ (r : Int) < (r : Int) := by omega
              have HP := hide (unhide HSP _ _ _ _ _ _ (unhide HI))
              go_wp2_with fail
              clear HI y0 y1 y2 y3
              go_loopw [5, 6, 7, 8] (fun a b c i wq => ∃ (j : Nat) (ao : Option Addr) (ac : Nat) (bo : Option Addr) (bc : Nat) (co : Option Addr) (cc : Nat), j ≤ 40 ∧ a = .slice ao (k + j) ac ∧ b = .slice bo (m + j) bc ∧ c = .slice co (r + j) cc ∧ i = .int .i64 j ∧ Hid (Sp u wq ⟨da, dc, la, lc, ha, hc⟩ (.slice ao (k + j) ac) (.slice bo (m + j) bc) (.slice co (r + j) cc) (k + j) (m + j) (r + j))) (fun _ _ _ i _ => 40 - (intOf i).toNat)
              case atStart => exact ⟨0, da, dc, la, lc, ha, hc, by omega, rfl, rfl, rfl, rfl, unhide HP⟩
              case round =>
                clear HP
                obtain ⟨j, ao, ac, bo, bc, co, cc, hj, rfl, rfl, rfl, rfl, HI⟩ := hrel
                by_cases hjt : j < 40
                · have hji : (j : Int) < 40 := by omega
                  obtain ⟨xs, hra⟩ := (unhide HI).ra
                  have HRA := hide hra
                  clear hra
                  go_wp2_with (first
                    | (at_builtin; refine W.wpList_put _ rfl (.tmp 53) (.tmp 55) 22 rfl 0 66 i0 (.agg #[.string ⟨#[]⟩, .string ⟨#[]⟩]) 2 32 undC (unhide HI0).1 (unhide HI0).2.1 (unhide HI0).2.2.1 (unhide HI0).2.2.2 rfl (by decide) (.slice ao (k + j) ac) (k + j) xs rfl ((unhide HRA).alloc _) ⟨_, 0, none⟩ 1 1 [.string ⟨#[98, 101, 104, 105, 110, 100]⟩, .string ⟨#[]⟩] rfl rfl (two_new _ _ _ _) (by simp [Value.oneCell']) (by simp only [maxLen]; omega) (by omega) (Nat.zero_le _) ?_; intro v' w10 hown' hgrow hnew; obtain ⟨ao2, ac2, rfl⟩ := W.owns_shape hown'; have HI2a := hide ((unhide HI).putA hgrow hown' hnew); obtain ⟨ys, hrb⟩ := (unhide HI2a).rb; have HRB := hide hrb; clear hrb hown' hgrow hnew)
                    | (at_builtin; refine W.wpList_put _ rfl (.tmp 57) (.tmp 58) 23 rfl 0 9 i1 (.string ⟨#[]⟩) 1 16 undSt (unhide HI1).1 (unhide HI1).2.1 (unhide HI1).2.2.1 (unhide HI1).2.2.2 rfl (by decide) (.slice bo (m + j) bc) (m + j) ys rfl ((unhide HRB).alloc _) ⟨_, 0, none⟩ 1 1 [.string ⟨#[98, 101, 104, 105, 110, 100]⟩] rfl rfl (one_new _ _ _) (by simp [Value.oneCell']) (by simp only [maxLen]; omega) (by omega) (Nat.zero_le _) ?_; intro v' w11 hown' hgrow hnew; obtain ⟨bo2, bc2, rfl⟩ := W.owns_shape hown'; have HI3a := hide ((unhide HI2a).putB hgrow hown' hnew); obtain ⟨zs, hrc⟩ := (unhide HI3a).rc; have HRC := hide hrc; clear hrc hown' hgrow hnew)
                    | (at_builtin; refine W.wpList_put _ rfl (.tmp 60) (.tmp 61) 24 rfl 0 50 i2 (.int .u32 0) 1 4 undG (unhide HI2).1 (unhide HI2).2.1 (unhide HI2).2.2.1 (unhide HI2).2.2.2 rfl (by decide) (.slice co (r + j) cc) (r + j) zs rfl ((unhide HRC).alloc _) ⟨_, 0, none⟩ 1 1 [.int .u32 98] rfl rfl (one_new _ _ _) (by simp [Value.oneCell']) (by simp only [maxLen]; omega) (by omega) (Nat.zero_le _) ?_; intro v' w12 hown' hgrow hnew; obtain ⟨co2, cc2, rfl⟩ := W.owns_shape hown'; have HI4a := hide ((unhide HI3a).putC hgrow hown' hnew); clear hown' hgrow hnew)
                    | fail)
                  go_wp2
                  go_roundw
                  case rel => exact ⟨j + 1, _, _, _, _, _, _, by omega, rfl, rfl, rfl, by go_num, unhide HI4a⟩
                  case measure => simp [intOf]; omega
                · obtain rfl : j = 40 := by omega
                  go_wp2
                  go_returns
                  exact ⟨rfl, (unhide HI).up⟩
end Go.Proofs.Ytppmpomfihalfaa
