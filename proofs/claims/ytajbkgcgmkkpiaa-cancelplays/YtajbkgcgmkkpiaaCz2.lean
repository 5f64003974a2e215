/- CancelPlays: plays, kind 2. Written by mkcnz.py. -/
import Derived.Test.YtajbkgcgmkkpiaaCny
import Derived.Deep.DeepCutAuto
import Derived.BigQuiet
namespace Go.Proofs.Ytajbkgcgmkkpiaa.C
open Go.RowKit Go.Lib
section
variable {W wr : World} {db n na ca cb : Nat} {G : Geo} {Z : Nat → Dy} {ao bo : Option Addr}
set_option maxRecDepth 100000 in
set_option maxHeartbeats 2000000 in
theorem kPlay2 (h : DM W wr db G Z n (allL G n) na (refF G.up (yZ Z) n) n ao bo ca cb) (hn : n < 5870000000000) (on why : Int) :
    Calls Try.prog 11 #[.pointer (some ⟨db, 0, none⟩), .agg #[.int .i64 2, .int .i64 on, .int .i64 why]] wr fun e w' => e = .returned (.bool true) ∧ ∃ G' Z' ao' bo' ca' cb', DM W w' db G' Z' (n + 1) (allL G' (n + 1)) (na + 1) (refF G'.up (yZ Z') (n + 1)) (n + 1) ao' bo' ca' cb' := by
  have hm : na = n + 1 := by rw [h.ha, allL_len]
  have hwm : wrap64 ((na : Int) - 1) = (n : Int) := by simp only [wrap64]; omega
  have hwm2 : IntKind.i64.wrap ((na : Int) - 1) = (n : Int) := by rw [IntKind.wrap_i64]; omega
  obtain ⟨k, hk⟩ : ∃ k : Nat, on % ((n : Int) + 1) = (k : Int) := ⟨(on % ((n : Int) + 1)).toNat, by have := Int.emod_nonneg on (show (n : Int) + 1 ≠ 0 by omega); omega⟩
  have hkn : k ≤ n := by have := Int.emod_lt_of_pos on (show (0 : Int) < (n : Int) + 1 by omega); omega
  have HSEAT := hide (kSeat on n (by omega))
  rw [hk] at HSEAT
  have hwk : wrap64 ((k : Int) - 1) = (k : Int) - 1 := by simp only [wrap64]; omega
  have hwk2 : IntKind.i64.wrap ((k : Int) - 1) = (k : Int) - 1 := by rw [IntKind.wrap_i64]; omega
  have hkna : (k : Int) < (na : Int) := by omega
  have hdb : db < wr.heap.size := (Array.getElem?_eq_some_iff.1 h.dk).1
  obtain ⟨U, hU⟩ : ∃ U, U = wr.alloc (.cells #[.int .i64 2, .int .i64 on, .int .i64 why] 27) := ⟨_, rfl⟩
  have hbU : Below wr.heap.size wr U := by rw [hU]; exact (Below.refl _ _).alloc (Nat.le_refl _) _
  have hxU : U.heap[wr.heap.size]? = some (.cells #[.int .i64 2, .int .i64 on, .int .i64 why] 27 (0, 0)) := by rw [hU]; exact heap_alloc_new _ _
  obtain ⟨N, hN⟩ : ∃ N, N = wr.heap.size := ⟨_, rfl⟩
  rw [← hN] at hxU
  have h1 := h.below hbU
  have hd0 := (S.box2 h1.dk).1
  have hx0 := (S.box3 hxU).1
  have hx1 := (S.box3 hxU).2.1
  have hx2 := (S.box3 hxU).2.2
  have HU := hide hU
  have HH := hide h1
  have HXU := hide hxU
  have HN := hide hn
  have HK := hide hkn
  have HM := hide hm
  clear h h1 hn hm hk hkn hbU hU hxU hdb
  have HNN := hide hN
  clear hN
  go_enter Try.func11, Try.ntmps11
  go_wp2
  rw [← unhide HU, ← unhide HNN]
  clear HU HNN
  go_quiet (first | with_reducible exact Calls.quiet_of_same (unhide HSEAT _) | fail)
  have HX := hide ((unhide HH).below (belowDrewN (Below.refl _ _) nq))
  have hxb : (U.drewN nq).heap[N]? = some (.cells #[.int .i64 2, .int .i64 on, .int .i64 why] 27 (0, 0)) := unhide HXU
  clear HH HXU hd0 hx0 hx1 hx2 HSEAT
  generalize U.drewN nq = X at *
  obtain ⟨ga, rfl, hca⟩ := (unhide HX).tok (unhide HK)
  have hix := fun w => tokix ga na ca k (by have := unhide HK; have := unhide HM; omega) w
  have hd0 := (S.box2 (unhide HX).dk).1
  have hx0 := (S.box3 hxb).1
  have hx1 := (S.box3 hxb).2.1
  have hx2 := (S.box3 hxb).2.2
  have HNEW := hide (kRNewN (unhide HX).rd (by have := unhide HN; omega) (unhide HX).bl.size (.slice (some ⟨ga, 0, none⟩) na ca) (unhide HX).dk (k := k) (unhide HK))
  go_wp2_with (first
    | (go_at_call 44; with_reducible refine (unhide HNEW).mono ?_; rintro e X1 ⟨⟨v, rfl⟩, hr⟩; obtain ⟨bo1, cb1, hdm⟩ := (unhide HX).rnew (E' := refF G.up (yZ Z) n ++ [(((k : Nat) : Int) - 1, whyN Z k)]) (by rw [List.length_append, refF_len, List.length_singleton]) hr; have H2 := hide hdm; have hd1 := (S.box2 hdm.dk).1; have hct := hdm.tok' (unhide HK); have HCON := hide (kUnderN (unhide H2).fo (unhide H2).wf (unhide H2).bl.size (by have := unhide HN; omega) (unhide HK)); clear hr hdm HNEW)
    | (go_at_call 13; with_reducible refine (unhide HCON).mono ?_; rintro e X2 ⟨tb, kb, lb, ch, Z', rfl, hmo⟩; have h2 := unhide H2; have h3 := h2.grow hmo; have HJ := hide (kJoins h3 (by have := unhide HN; omega)); rw [ext_self.1] at HJ; clear hmo h2 h3 HCON)
    | (go_at_call 45; with_reducible refine (unhide HJ).mono ?_; rintro e X3 ⟨rfl, hfin⟩; have HF := hide hfin; clear hfin HJ)
    | fail)
  go_ret
  obtain ⟨ao', ca', hf⟩ := unhide HF
  exact ⟨by simp, _, _, _, _, _, _, hf⟩
end
end Go.Proofs.Ytajbkgcgmkkpiaa.C
