/- CancelPlays: the desk; joins. -/
import Derived.Test.YtajbkgcgmkkpiaaCnw
import Derived.Test.YtajbkgcgmkkpiaaCns
namespace Go.Proofs.Ytajbkgcgmkkpiaa.C
open Go.RowKit Go.Lib
/-- the desk in memory: the program's tokens, the document's -/
structure DM (W wr : World) (db : Nat) (G : Geo) (Z : Nat → Dy) (n : Nat) (A : List (Option Nat)) (na : Nat) (E : List (Int × Int)) (ne : Nat) (ao bo : Option Addr) (ca cb : Nat) : Prop where
  fo : Fo W.heap.size wr G Z n
  wf : Wf G.up Z n
  al : TR.Own wr W.heap.size A ao ca
  rf : RR.Own wr W.heap.size E bo cb
  dk : wr.heap[db]? = some (.cells #[.slice ao na ca, .slice bo ne cb] 33 (0, 0))
  ha : na = A.length
  he : ne = E.length
  dl : W.heap.size ≤ db
  bl : Below W.heap.size W wr
section
variable {W wr w' : World} {db n na ne ca cb : Nat} {G : Geo} {Z : Nat → Dy} {A : List (Option Nat)} {E : List (Int × Int)} {ao bo : Option Addr}
theorem DM.below (h : DM W wr db G Z n A na E ne ao bo ca cb) (hb : Below wr.heap.size wr w') : DM W w' db G Z n A na E ne ao bo ca cb :=
  ⟨h.fo.below hb, h.wf, h.al.below hb, h.rf.below hb, S.box_below h.dk hb, h.ha, h.he, h.dl, h.bl.trans (hb.mono h.bl.size)⟩
theorem DM.more (h : DM W wr db G Z n A na E ne ao bo ca cb) {k tb kb lb ch : Nat} {Z' : Nat → Dy} (hm : More W.heap.size wr w' G Z n k tb kb lb ch Z') : DM W w' db (G.ext n tb kb lb ch k) Z' (n + 1) A na E ne ao bo ca cb :=
  ⟨hm.fo, hm.wf, own_fr h.al hm.fr (by decide) (by decide), own_fr h.rf hm.fr (by decide) (by decide), hm.fr.typ _ _ _ _ h.dk (by decide) (by decide), h.ha, h.he, h.dl, h.bl.trans (hm.fr.below h.bl.size)⟩
theorem DM.cut (h : DM W wr db G Z n A na E ne ao bo ca cb) {k : Nat} {why : Int} {Z' : Nat → Dy} (hm : Cut W.heap.size wr w' G Z n k why Z') : DM W w' db G Z' n A na E ne ao bo ca cb :=
  ⟨hm.fo, hm.wf, own_fr h.al hm.fr (by decide) (by decide), own_fr h.rf hm.fr (by decide) (by decide), hm.fr.typ _ _ _ _ h.dk (by decide) (by decide), h.ha, h.he, h.dl, h.bl.trans (hm.fr.below h.bl.size)⟩
theorem own_desk {P : Program} {α : Type} {R : S.Rec P α} {B c : Nat} {U : World} {l : List α} {ao : Option Addr} {cs : Array Value} (h : R.Own U B l ao c) (hd : U.heap[db]? = some (.cells cs 33 (0, 0))) (hne : R.et ≠ 33) (k : Nat) (v : Value) : R.Own (U.setCell ⟨db, k, none⟩ v) B l ao c :=
  S.own_keep h fun g hg => hcOther (fun e => by
    rcases h.2 with ⟨hv, _⟩ | ⟨g', cap, cur, hv, _, hh, _⟩
    · rw [hv] at hg; cases hg
    · rw [hv] at hg
      obtain rfl : g' = g := Option.some.inj hg
      rw [e, hd] at hh
      have := congrArg (fun o => match o with | some (Obj.cells _ t _) => t | _ => 0) hh
      exact hne this.symm)
theorem Fo.desk {B : Nat} {U : World} {cs : Array Value} (h : Fo B U G Z n) (hd : U.heap[db]? = some (.cells cs 33 (0, 0))) (k : Nat) (v : Value) : Fo B (U.setCell ⟨db, k, none⟩ v) G Z n :=
  h.keep 33 (by decide) (by decide) (by decide) (by decide) fun b o hb hno => (hcOther (fun e => by rw [e, hd] at hb; exact hno _ _ (Option.some.inj hb).symm)).trans hb
theorem below_desk {B : Nat} {U V : World} (h : Below B U V) (hB : B ≤ db) (k : Nat) (v : Value) : Below B U (V.setCell ⟨db, k, none⟩ v) := belowCell h hB v
theorem DM.rt (h : DM W wr db G Z n A na E ne ao bo ca cb) {V : World} (hr : Rt W.heap.size wr V) : Fo W.heap.size V G Z n ∧ TR.Own V W.heap.size A ao ca ∧ V.heap[db]? = some (.cells #[.slice ao na ca, .slice bo ne cb] 33 (0, 0)) ∧ Below W.heap.size W V :=
  ⟨h.fo.keep 112 (by decide) (by decide) (by decide) (by decide) hr.oth, own_rt h.al hr (by decide), hr.oth _ _ h.dk (by simp), h.bl.trans hr.below⟩
theorem DM.rnew (h : DM W wr db G Z n A na E ne ao bo ca cb) {E' : List (Int × Int)} (hl : E'.length = ne + 1) (hr : RNew W.heap.size wr w' db ne E') : ∃ bo' cb', DM W w' db G Z n A na E' (ne + 1) ao bo' ca cb' := by
  obtain ⟨V, bo', cb', h1, rfl, h3⟩ := hr
  obtain ⟨f, a, d, b⟩ := h.rt h1
  exact ⟨bo', cb', f.desk d 1 _, h.wf, own_desk a d (by decide) 1 _, h3, hcSame d 1 _, h.ha, hl.symm, h.dl, below_desk b h.dl 1 _⟩
theorem DM.put (h : DM W wr db G Z n A na E ne ao bo ca cb) {m : List (Option Nat)} {ao' : Option Addr} {n' c' : Nat} (hp : TR.Put wr w' W.heap.size A m ao ca ao' n' c') : DM W (w'.setCell ⟨db, 0, none⟩ (.slice ao' n' c')) db G Z n (A ++ m) n' E ne ao' bo c' cb := by
  have d : w'.heap[db]? = some (.cells #[.slice ao na ca, .slice bo ne cb] 33 (0, 0)) := put_keep h.al hp h.dk (by simp; decide)
  exact ⟨(h.fo.keep 34 (by decide) (by decide) (by decide) (by decide) (fun _ _ hb hno => put_keep h.al hp hb hno)).desk d 0 _, h.wf, own_desk hp.own d (by decide) 0 _, own_desk (put_own h.al hp h.rf (by decide)) d (by decide) 0 _, hcSame d 0 _, hp.len, h.he, h.dl, below_desk (h.bl.trans hp.below) h.dl 0 _⟩
set_option maxRecDepth 100000 in
set_option maxHeartbeats 1000000 in
theorem kJoins (h : DM W wr db G Z (n + 1) (allL G n) na E ne ao bo ca cb) (hn : n < 5900000000000) :
    Calls Try.prog 45 #[.pointer (some ⟨db, 0, none⟩), .pointer (some ⟨G.tb n, 0, none⟩)] wr fun e w' => e = .returned (.bool true) ∧ ∃ ao' ca', DM W w' db G Z (n + 1) (allL G (n + 1)) (na + 1) E ne ao' bo ca' cb := by
  have hna : na = n + 1 := by rw [h.ha, allL_len]
  have hd0 := (S.box2 h.dk).1
  have hd1 := (S.box2 h.dk).2
  have hzd := frz0 h.dk 0
  have HH := hide h
  have HN := hide hn
  have HNA := hide hna
  have HONE := hide (fun i (hi : i ≤ n) => kOneN h.fo (a := n + 1) (b := i) (Nat.le_refl _) (by omega))
  have HENO := hide (fun i (hi : i ≤ n) => kOneN h.fo (a := i) (b := n + 1) (by omega) (Nat.le_refl _))
  clear h hn hna
  go_enter Try.func45, Try.ntmps45
  go_wp2
  go_loopw [5] (fun s5 wv => ∃ i : Nat, i ≤ na ∧ s5 = .int .i64 (i : Int) ∧ wv = wr) (fun s5 _ => na - (intOf s5).toNat)
  case atStart => exact ⟨0, Nat.zero_le _, rfl, rfl⟩
  case round =>
    rename_i wr0
    obtain ⟨i, hi, rfl, rfl⟩ := hrel
    by_cases hlt : i < na
    · have hin : i ≤ n := by have := unhide HNA; omega
      have hlti : (i : Int) < (na : Int) := by omega
      obtain ⟨ga, rfl, hca, _⟩ := own_get (unhide HH).al (i := i) (by rw [allL_len]; omega)
      have hc0 := hca 0 _ rfl
      rw [allL_get] at hc0
      have hci : wr.cell? ⟨ga, i, none⟩ = some (tkP G i) := by
        have e : i * TR.n + 0 = i := by show i * 1 + 0 = i; omega
        rw [e] at hc0
        exact hc0
      have hix := fun w => TR.ix (P := Try.prog) ga 0 na ca i hlt w
      have hwi : wrap64 ((i : Int) + 1) = ((i + 1 : Nat) : Int) := by have := unhide HN; simp only [wrap64]; omega
      have H1 := hide (unhide HONE i hin)
      have H2 := hide (unhide HENO i hin)
      rw [decide_eq_false (by omega)] at H1
      rw [decide_eq_false (by omega)] at H2
      have H1 : Hid (Calls Try.prog 19 #[.pointer (some ⟨G.tb n, 0, none⟩), tkP G i] wr fun e w' => e = .returned (.bool false) ∧ w' = wr) := H1
      have H2 : Hid (Calls Try.prog 19 #[tkP G i, .pointer (some ⟨G.tb n, 0, none⟩)] wr fun e w' => e = .returned (.bool false) ∧ w' = wr) := H2
      have HLT := hide hlt
      clear hca hc0 hlt hin hi
      go_wp2_with (first
        | (go_at_call 19; with_reducible refine (unhide H1).mono ?_; rintro e w' ⟨rfl, hw⟩; obtain rfl := hw.symm; clear H1)
        | (go_at_call 19; with_reducible refine (unhide H2).mono ?_; rintro e w' ⟨rfl, hw⟩; obtain rfl := hw.symm; clear H2)
        | fail)
      go_roundw
      case rel => exact ⟨i + 1, unhide HLT, by rw [hwi], trivial⟩
      case measure => have := unhide HLT; rw [hwi]; simp only [intOf, Int.toNat_natCast]; omega
    · obtain rfl : i = na := by omega
      have HAT := hide (oneT wr (G.tb n))
      have HM2 := hide ((unhide HH).below ((Below.refl _ _).alloc (Nat.le_refl _) (.cells #[.pointer (some ⟨G.tb n, 0, none⟩)] 34)))
      have hL8 : ((allL G n).length + [some (G.tb n)].length) * 8 ≤ 140737488355328 := by rw [allL_len]; have := unhide HN; simp; omega
      have HL8 := hide hL8
      clear hL8 hi hlt HONE HENO
      go_wp2_with (first
        | (at_builtin; (with_reducible refine wpList_putT (by rfl) (.tmp 39) (.tmp 41) (by rfl) (some 42) (by rfl) W.heap.size (allL G n) [some (G.tb n)] i 1 (unhide HH).ha rfl ao (some ⟨wr.heap.size, 0, none⟩) ca 1 (by with_unfolding_all rfl) (by with_unfolding_all rfl) (unhide HM2).al (unhide HAT) (unhide HL8) (unhide HM2).bl.size ?_); intro x4 n4 c4 W4 HP4; simp only [Act.put, List.setIfInBounds_toArray, List.set_cons_zero, List.set_cons_succ]; have hz1 := (S.box2 (put_keep (unhide HM2).al (unhide HP4) (unhide HM2).dk (by simp; decide))).1; have hz2 := frz0 (put_keep (unhide HM2).al (unhide HP4) (unhide HM2).dk (by simp; decide)) 0; have HM3 := hide ((unhide HM2).put (unhide HP4)); have HLEN := hide ((unhide HP4).len); have HON := hide (kOneN (unhide HM3).fo (a := n + 1) (b := n + 1) (Nat.le_refl _) (Nat.le_refl _)))
        | (go_at_call 19; refine (unhide HON).mono ?_; rintro e w' ⟨rfl, hw⟩; obtain rfl := hw.symm; clear HON)
        | fail)
      go_ret
      have hm3 := unhide HM3
      have hlen := unhide HLEN
      rw [List.length_append, allL_len] at hlen
      have hnn := unhide HNA
      have e4 : n4 = i + 1 := by rw [hlen, hnn]; rfl
      subst e4
      have e5 : allL G n ++ [some (G.tb n)] = allL G (n + 1) := by
        simp only [allL, List.range_succ, List.map_append, List.map_cons, List.map_nil, List.cons_append]
      rw [e5] at hm3
      exact ⟨by simp, x4, c4, hm3⟩
end
end Go.Proofs.Ytajbkgcgmkkpiaa.C
