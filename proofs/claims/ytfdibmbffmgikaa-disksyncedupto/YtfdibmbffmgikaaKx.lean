/- DiskWhole: the walk. -/
import Derived.Test.YtfdibmbffmgikaaKv
namespace Go.Proofs.Ytfdibmbffmgikaa
open Go.RowKit Go.Lib

theorem Dsk.mono {B B' : Nat} {u : World} {D : Nat} {F : List Nat} {d : Dk} (h : Dsk B u D F d) (hb : B' ≤ B) : Dsk B' u D F d := by
  obtain ⟨L, T, v, f, rfl, h⟩ := h
  refine ⟨L, T, v, f, rfl, ⟨{ h.toDskM with pend := ⟨h.pend.1, ?_⟩, bD := Nat.le_trans hb h.bD, bL := Nat.le_trans hb h.bL, bT := Nat.le_trans hb h.bT }, h.lst⟩⟩
  rcases h.pend.2 with h' | ⟨g, cap, cur, hv, h1, h2⟩
  · exact .inl h'
  · exact .inr ⟨g, cap, cur, hv, Nat.le_trans hb h1, h2⟩
theorem dLoadOk (ls : List ByteArray) (hL : loads ls = true) (ao : Option Addr) (cap : Nat) (u : World) (h : Ts u ao ls) : Calls Try.prog 25 #[.slice ao ls.length cap] u fun e u' => ∃ D F, e = .returned (.tuple #[.pointer (some ⟨D, 0, none⟩), .int .i64 0]) ∧ Dsk u.heap.size u' D F (Dk.loaded ls) ∧ Below u.heap.size u u' :=
  (dLoad ls ao cap u h).mono fun e u' ⟨hb, hp⟩ => by
    unfold LoadPost at hp
    rw [hL, if_pos rfl] at hp
    obtain ⟨D, F, he, hd⟩ := hp
    exact ⟨D, F, he, hd, hb⟩
theorem dLoadBad (ls : List ByteArray) (hL : loads ls = false) (ao : Option Addr) (cap : Nat) (u : World) (h : Ts u ao ls) : Calls Try.prog 25 #[.slice ao ls.length cap] u fun e u' => e = .returned (.tuple #[.pointer none, .int .i64 1]) ∧ Below u.heap.size u u' :=
  (dLoad ls ao cap u h).mono fun e u' ⟨hb, hp⟩ => by
    unfold LoadPost at hp
    rw [hL, if_neg (by decide)] at hp
    exact ⟨hp, hb⟩
theorem landed_congr (d : Dk) (s t : Nat → Nat) : ∀ n, (∀ i, i < n → s i = t i) → d.landed s n = d.landed t n
  | 0, _ => rfl
  | n + 1, h => by
    simp only [Dk.landed]
    rw [landed_congr d s t n (fun i hi => h i (by omega)), h n (by omega)]
theorem crash_all (d : Dk) : (d.crash (share (List.replicate d.pend.length true) (-1) 0)).lies = (d.settle fun _ => 1024).lies := by
  show d.landed _ _ = d.landed _ _
  refine landed_congr d _ _ _ fun i hi => ?_
  unfold share
  rw [if_neg (by omega), List.getD_eq_getElem?_getD, List.getElem?_eq_getElem (by simpa using hi), Option.getD_some, List.getElem_replicate, if_pos rfl]
theorem landed_none (d : Dk) (h : d.Ok) (s : Nat → Nat) : ∀ n, n ≤ d.pend.length → (∀ i, i < n → s i = 0) → d.landed s n = d.lies
  | 0, _, _ => rfl
  | n + 1, hn, hs => by
    simp only [Dk.landed]
    rw [landed_none d h s n (by omega) (fun i hi => hs i (by omega)), hs n (by omega), List.take_zero, List.nil_append, List.drop_zero]
    have := (h.pg (d.pend.getD n (0, [])) (getD_mem _ _ (by omega) _)).1
    generalize (d.pend.getD n (0, [])).1 = j at *
    rw [List.getD_eq_getElem?_getD, List.getElem?_eq_getElem this, Option.getD_some, List.set_getElem_self]
theorem crash_none {d : Dk} (h : d.Ok) : (d.crash (share [] (d.pend.length : Int) 0)).lies = d.lies := by
  show d.landed _ _ = d.lies
  refine landed_none d h _ _ (Nat.le_refl _) fun i hi => ?_
  unfold share
  rw [if_neg (by omega)]
  rfl
theorem row_ts {u : World} {R : Nat} {l : List (List UInt8)} (h : u.heap[R]? = some (.cells (strs l) 9 (0, 0))) : Ts u (some ⟨R, 0, none⟩) (l.map fun b => ⟨b.toArray⟩) := fun _ => ⟨R, 0, rfl, fun j hj => by
  rw [Nat.zero_add, cell_of_row u R j _ _ _ h]
  have hj' : j < l.length := by simpa using hj
  simp [strs, str, hj']⟩
theorem lSameL (l : List (List UInt8)) (R1 R2 : Nat) (n1 n2 c1 c2 : Nat) (u : World) (h1 : u.heap[R1]? = some (.cells (strs l) 9 (0, 0))) (h2 : u.heap[R2]? = some (.cells (strs l) 9 (0, 0))) (hn1 : n1 = l.length) (hn2 : n2 = l.length) (hl : l.length ≤ 9223372036854775807) :
    Calls Try.prog 26 #[.slice (some ⟨R1, 0, none⟩) n1 c1, .slice (some ⟨R2, 0, none⟩) n2 c2] u fun e u' => e = .returned (.bool true) ∧ UpS u u' [] := by
  have := lSame (l.map fun b => ⟨b.toArray⟩) (some ⟨R1, 0, none⟩) (some ⟨R2, 0, none⟩) c1 c2 u (row_ts h1) (row_ts h2) (by simpa using hl)
  rw [List.length_map] at this
  rw [hn1, hn2]
  exact this
theorem Sts.range5 {u w0 w : World} {B : Nat} {ao : Option Addr} {l : List St} (_ : Sts w B ao l) {x : St} {b o : Nat} (h : x.At w0 b o) (h0 : Below B u w0) (h1 : Below B u w) (hb : b < B) : w.rangeAt b o x.cs.toList := fun j v hv => by
  have := h.range j v hv
  rw [h1.cell (p := ⟨b, o + j, none⟩) hb, ← h0.cell (p := ⟨b, o + j, none⟩) hb]
  exact this
/-- three disks, and the law's own list -/
structure Tri (B : Nat) (w : World) (a b c : Nat) (Fa Fb Fc : List Nat) (v : Value) (dA dB dC : Dk) : Prop where
  da : Dsk B w a Fa dA
  db : Dsk B w b Fb dB
  dc : Dsk B w c Fc dC
  own : w.ownsRow B 58 2 v dA.pend.length (cCells dA.pend)
  ab : ∀ k ∈ Fa, k ∉ Fb
  ac : ∀ k ∈ Fa, k ∉ Fc
  bc : ∀ k ∈ Fb, k ∉ Fc
  va : ∀ k, v.ownBlock = some k → k ∉ Fa ∧ k ∉ Fb ∧ k ∉ Fc
  clean : Clean dC
section
variable {B : Nat} {w w' : World} {a b c : Nat} {Fa Fb Fc F' : List Nat} {v v' : Value} {dA dB dC d' : Dk}
theorem Tri.geA (h : Tri B w a b c Fa Fb Fc v dA dB dC) : ∀ k ∈ Fa ++ v.ownBlock.toList, B ≤ k := fun k hk => by
  rcases List.mem_append.1 hk with hk | hk
  · exact (h.da.ge k hk).1
  · exact (h.own.lt k (mem_toList hk)).1
theorem Tri.below (h : Tri B w a b c Fa Fb Fc v dA dB dC) (hb : Below w.heap.size w w') : Tri B w' a b c Fa Fb Fc v dA dB dC :=
  ⟨h.da.below hb, h.db.below hb, h.dc.below hb, ownsRow_keep h.own fun k hk => hb.block k (h.own.lt k hk).2, h.ab, h.ac, h.bc, h.va, h.clean⟩
theorem Tri.stepA (h : Tri B w a b c Fa Fb Fc v dA dB dC) (hd : Dsk B w' a F' d') (ho : w'.ownsRow B 58 2 v' d'.pend.length (cCells d'.pend)) (hu : UpS w w' (Fa ++ v.ownBlock.toList)) (hf : ∀ k ∈ F', k ∈ Fa ∨ w.heap.size ≤ k)
    (hv : ∀ k, v'.ownBlock = some k → v.ownBlock = some k ∨ w.heap.size ≤ k) (hvF : ∀ k, v'.ownBlock = some k → k ∉ F') : Tri B w' a b c F' Fb Fc v' d' dB dC := by
  have nb : ∀ k ∈ Fb, k ∉ Fa ++ v.ownBlock.toList := fun k hk hx => by
    rcases List.mem_append.1 hx with hx | hx
    · exact h.ab k hx hk
    · exact (h.va k (mem_toList hx)).2.1 hk
  have nc : ∀ k ∈ Fc, k ∉ Fa ++ v.ownBlock.toList := fun k hk hx => by
    rcases List.mem_append.1 hx with hx | hx
    · exact h.ac k hx hk
    · exact (h.va k (mem_toList hx)).2.2 hk
  refine ⟨hd, h.db.upd hu nb, h.dc.upd hu nc, ho, fun k hk hx => ?_, fun k hk hx => ?_, h.bc, fun k hk => ⟨hvF k hk, fun hx => ?_, fun hx => ?_⟩, h.clean⟩
  · exact (hf k hk).elim (fun h' => h.ab k h' hx) (fun h' => by have := (h.db.ge k hx).2; omega)
  · exact (hf k hk).elim (fun h' => h.ac k h' hx) (fun h' => by have := (h.dc.ge k hx).2; omega)
  · exact (hv k hk).elim (fun h' => (h.va k h').2.1 hx) (fun h' => by have := (h.db.ge k hx).2; omega)
  · exact (hv k hk).elim (fun h' => (h.va k h').2.2 hx) (fun h' => by have := (h.dc.ge k hx).2; omega)
theorem Tri.stepB (h : Tri B w a b c Fa Fb Fc v dA dB dC) (hd : Dsk B w' b F' d') (hu : UpS w w' Fb) (hf : ∀ k ∈ F', k ∈ Fb ∨ w.heap.size ≤ k) : Tri B w' a b c Fa F' Fc v dA d' dC :=
  ⟨h.da.upd hu h.ab, hd, h.dc.upd hu (fun k hk hx => h.bc k hx hk), ownsRow_keep h.own fun k hk => hu.block k (h.own.lt k hk).2 (h.va k hk).2.1,
    fun k hk hx => (hf k hx).elim (h.ab k hk) (fun h' => by have := (h.da.ge k hk).2; omega), h.ac,
    fun k hk hx => (hf k hk).elim (fun h' => h.bc k h' hx) (fun h' => by have := (h.dc.ge k hx).2; omega),
    fun k hk => ⟨(h.va k hk).1, fun hx => (hf k hx).elim (h.va k hk).2.1 (fun h' => by have := (h.own.lt k hk).2; omega), (h.va k hk).2.2⟩, h.clean⟩
theorem Tri.stepC (h : Tri B w a b c Fa Fb Fc v dA dB dC) {x : St} (hd : Dsk B w' c F' (dC.act x)) (hu : UpS w w' Fc) (hf : ∀ k ∈ F', k ∈ Fc ∨ w.heap.size ≤ k) : Tri B w' a b c Fa Fb F' v dA dB (dC.act x) :=
  ⟨h.da.upd hu h.ac, h.db.upd hu h.bc, hd, ownsRow_keep h.own fun k hk => hu.block k (h.own.lt k hk).2 (h.va k hk).2.2, h.ab,
    fun k hk hx => (hf k hx).elim (h.ac k hk) (fun h' => by have := (h.da.ge k hk).2; omega),
    fun k hk hx => (hf k hx).elim (h.bc k hk) (fun h' => by have := (h.db.ge k hk).2; omega),
    fun k hk => ⟨(h.va k hk).1, (h.va k hk).2.1, fun hx => (hf k hx).elim (h.va k hk).2.2 (fun h' => by have := (h.own.lt k hk).2; omega)⟩, h.clean.act x⟩
end
set_option maxRecDepth 100000 in
set_option maxHeartbeats 16000000 in
theorem whole_walk (ls : List ByteArray) (ao : Option Addr) (cap : Nat) (l : List St) (ao2 : Option Addr) (cap2 : Nat) (u : World) (hT : Tb u u.heap.size ao ls) (hS : Sts u u.heap.size ao2 l) (h1 : ls.length ≤ 1048576) (h2 : l.length ≤ 1048576) :
    Calls Try.prog 7 #[.slice ao ls.length cap, .slice ao2 l.length cap2] u fun e u' => e = .returned (.bool true) ∧ Below u.heap.size u u' := by
  obtain ⟨B, hB⟩ : ∃ B, B = u.heap.size := ⟨_, rfl⟩
  rw [← hB] at hT hS ⊢
  have HB := hide hB
  have HLe : Hid (∀ w, Below B u w → B ≤ w.heap.size) := fun w h => by rw [hB]; exact h.size
  obtain ⟨P, hP⟩ : ∃ P, P = ls.length := ⟨_, rfl⟩
  obtain ⟨m, hm⟩ : ∃ m, m = l.length := ⟨_, rfl⟩
  have HP := hide hP
  have HM := hide hm
  have HT := hide hT
  have HS := hide hS
  have HN1 := hide h1
  have hm1 : m ≤ 1048576 := by omega
  rw [← hP, ← hm]
  clear hB hT hS h1 h2 hm hP
  go_enter Try.func7, Try.ntmps7
  go_wp2_with fail
  refine (wakes u).mono ?_
  rintro e w1 ⟨rfl, hb⟩
  have HBw1 : Hid (Below B u w1) := by rw [unhide HB]; exact hb
  clear hb
  cases hL : loads ls
  · obtain ⟨ax2, cx2, X2, hrun, hts, hbc⟩ := copyTexts w1 B ls ao cap ((unhide HT).below (unhide HBw1)) (unhide HN1)
    rw [← unhide HP] at hrun
    have HTS := hide hts
    have HBX2 : Hid (Below B u X2) := (unhide HBw1).trans (hbc.mono (unhide HLe _ (unhide HBw1)))
    have HWX2 : Hid (Below w1.heap.size w1 X2) := hbc
    clear hts hbc
    go_wp2_with (at_builtin; refine append_to (by rfl) (.tmp 18) (.tmp 19) 36 36 (by rfl) (some 20) (by rfl) 36 (by rfl) _ _ (by rfl) (by rfl) _ _ hrun ?_; simp only [Act.put, List.setIfInBounds_toArray, List.set_cons_zero, List.set_cons_succ])
    clear hrun
    have HLD := hide (dLoadBad ls hL ax2 cx2 X2 (unhide HTS))
    rw [← unhide HP] at HLD
    refine (unhide HLD).mono ?_

    rintro e w2 ⟨rfl, hb⟩
    have HBw2 : Hid (Below B u w2) := (unhide HBX2).trans (hb.mono (unhide HLe _ (unhide HBX2)))
    clear hb HLD HTS HWX2

    obtain ⟨ax3, cx3, X3, hrun, hts, hbc⟩ := copyTexts w2 B ls ao cap ((unhide HT).below (unhide HBw2)) (unhide HN1)
    rw [← unhide HP] at hrun
    have HTS := hide hts
    have HBX3 : Hid (Below B u X3) := (unhide HBw2).trans (hbc.mono (unhide HLe _ (unhide HBw2)))
    have HWX3 : Hid (Below w2.heap.size w2 X3) := hbc
    clear hts hbc
    go_wp2_with (at_builtin; refine append_to (by rfl) (.tmp 25) (.tmp 26) 36 36 (by rfl) (some 27) (by rfl) 36 (by rfl) _ _ (by rfl) (by rfl) _ _ hrun ?_; simp only [Act.put, List.setIfInBounds_toArray, List.set_cons_zero, List.set_cons_succ])
    clear hrun
    have HLD := hide (dLoadBad ls hL ax3 cx3 X3 (unhide HTS))
    rw [← unhide HP] at HLD
    refine (unhide HLD).mono ?_

    rintro e w3 ⟨rfl, hb⟩
    have HBw3 : Hid (Below B u w3) := (unhide HBX3).trans (hb.mono (unhide HLe _ (unhide HBX3)))
    clear hb HLD HTS HWX3

    obtain ⟨ax4, cx4, X4, hrun, hts, hbc⟩ := copyTexts w3 B ls ao cap ((unhide HT).below (unhide HBw3)) (unhide HN1)
    rw [← unhide HP] at hrun
    have HTS := hide hts
    have HBX4 : Hid (Below B u X4) := (unhide HBw3).trans (hbc.mono (unhide HLe _ (unhide HBw3)))
    have HWX4 : Hid (Below w3.heap.size w3 X4) := hbc
    clear hts hbc
    go_wp2_with (at_builtin; refine append_to (by rfl) (.tmp 32) (.tmp 33) 36 36 (by rfl) (some 34) (by rfl) 36 (by rfl) _ _ (by rfl) (by rfl) _ _ hrun ?_; simp only [Act.put, List.setIfInBounds_toArray, List.set_cons_zero, List.set_cons_succ])
    clear hrun
    have HLD := hide (dLoadBad ls hL ax4 cx4 X4 (unhide HTS))
    rw [← unhide HP] at HLD
    refine (unhide HLD).mono ?_

    rintro e w4 ⟨rfl, hb⟩
    have HBw4 : Hid (Below B u w4) := (unhide HBX4).trans (hb.mono (unhide HLe _ (unhide HBX4)))
    clear hb HLD HTS HWX4

    go_wp2
    go_ret
    exact ⟨rfl, unhide HBw4⟩
  · obtain ⟨ax2, cx2, X2, hrun, hts, hbc⟩ := copyTexts w1 B ls ao cap ((unhide HT).below (unhide HBw1)) (unhide HN1)
    rw [← unhide HP] at hrun
    have HTS := hide hts
    have HBX2 : Hid (Below B u X2) := (unhide HBw1).trans (hbc.mono (unhide HLe _ (unhide HBw1)))
    have HWX2 : Hid (Below w1.heap.size w1 X2) := hbc
    clear hts hbc
    go_wp2_with (at_builtin; refine append_to (by rfl) (.tmp 18) (.tmp 19) 36 36 (by rfl) (some 20) (by rfl) 36 (by rfl) _ _ (by rfl) (by rfl) _ _ hrun ?_; simp only [Act.put, List.setIfInBounds_toArray, List.set_cons_zero, List.set_cons_succ])
    clear hrun
    have HLD := hide (dLoadOk ls hL ax2 cx2 X2 (unhide HTS))
    rw [← unhide HP] at HLD
    refine (unhide HLD).mono ?_

    rintro e w2 ⟨a, Fa, rfl, hd, hb⟩
    have HBw2 : Hid (Below B u w2) := (unhide HBX2).trans (hb.mono (unhide HLe _ (unhide HBX2)))
    have HWw2 : Hid (Below w1.heap.size w1 w2) := (unhide HWX2).trans (hb.mono (unhide HWX2).size)
    have HDa : Hid (Dsk X2.heap.size w2 a Fa (Dk.loaded ls)) := hd
    clear hd hb HLD HTS

    obtain ⟨ax3, cx3, X3, hrun, hts, hbc⟩ := copyTexts w2 B ls ao cap ((unhide HT).below (unhide HBw2)) (unhide HN1)
    rw [← unhide HP] at hrun
    have HTS := hide hts
    have HBX3 : Hid (Below B u X3) := (unhide HBw2).trans (hbc.mono (unhide HLe _ (unhide HBw2)))
    have HWX3 : Hid (Below w2.heap.size w2 X3) := hbc
    clear hts hbc
    go_wp2_with (at_builtin; refine append_to (by rfl) (.tmp 25) (.tmp 26) 36 36 (by rfl) (some 27) (by rfl) 36 (by rfl) _ _ (by rfl) (by rfl) _ _ hrun ?_; simp only [Act.put, List.setIfInBounds_toArray, List.set_cons_zero, List.set_cons_succ])
    clear hrun
    have HLD := hide (dLoadOk ls hL ax3 cx3 X3 (unhide HTS))
    rw [← unhide HP] at HLD
    refine (unhide HLD).mono ?_

    rintro e w3 ⟨b, Fb, rfl, hd, hb⟩
    have HBw3 : Hid (Below B u w3) := (unhide HBX3).trans (hb.mono (unhide HLe _ (unhide HBX3)))
    have HWw3 : Hid (Below w2.heap.size w2 w3) := (unhide HWX3).trans (hb.mono (unhide HWX3).size)
    have HDb : Hid (Dsk X3.heap.size w3 b Fb (Dk.loaded ls)) := hd
    clear hd hb HLD HTS

    obtain ⟨ax4, cx4, X4, hrun, hts, hbc⟩ := copyTexts w3 B ls ao cap ((unhide HT).below (unhide HBw3)) (unhide HN1)
    rw [← unhide HP] at hrun
    have HTS := hide hts
    have HBX4 : Hid (Below B u X4) := (unhide HBw3).trans (hbc.mono (unhide HLe _ (unhide HBw3)))
    have HWX4 : Hid (Below w3.heap.size w3 X4) := hbc
    clear hts hbc
    go_wp2_with (at_builtin; refine append_to (by rfl) (.tmp 32) (.tmp 33) 36 36 (by rfl) (some 34) (by rfl) 36 (by rfl) _ _ (by rfl) (by rfl) _ _ hrun ?_; simp only [Act.put, List.setIfInBounds_toArray, List.set_cons_zero, List.set_cons_succ])
    clear hrun
    have HLD := hide (dLoadOk ls hL ax4 cx4 X4 (unhide HTS))
    rw [← unhide HP] at HLD
    refine (unhide HLD).mono ?_

    rintro e w4 ⟨c, Fc, rfl, hd, hb⟩
    have HBw4 : Hid (Below B u w4) := (unhide HBX4).trans (hb.mono (unhide HLe _ (unhide HBX4)))
    have HWw4 : Hid (Below w3.heap.size w3 w4) := (unhide HWX4).trans (hb.mono (unhide HWX4).size)
    have HDc : Hid (Dsk X4.heap.size w4 c Fc (Dk.loaded ls)) := hd
    clear hd hb HLD HTS

    obtain ⟨B2, hB2⟩ : ∃ z, z = X2.heap.size := ⟨_, rfl⟩
    have HGE : Hid (B ≤ B2) := by rw [hB2]; exact unhide HLe _ (unhide HBX2)
    have hX2 : X2.heap.size ≤ w2.heap.size := by have := ((unhide HDa).ge a (by obtain ⟨L, T, v, f, h, _⟩ := unhide HDa; rw [h]; simp)); omega
    have hX3 : w2.heap.size ≤ X3.heap.size := (unhide HWX3).size
    have hX3' : X3.heap.size ≤ w3.heap.size := by have := ((unhide HDb).ge b (by obtain ⟨L, T, v, f, h, _⟩ := unhide HDb; rw [h]; simp)); omega
    have hX4 : w3.heap.size ≤ X4.heap.size := (unhide HWX4).size
    have hX4' : X4.heap.size ≤ w4.heap.size := by have := ((unhide HDc).ge c (by obtain ⟨L, T, v, f, h, _⟩ := unhide HDc; rw [h]; simp)); omega
    have HI0 : Hid (Tri B2 w4 a b c Fa Fb Fc (.slice none 0 0) (Dk.loaded ls) (Dk.loaded ls) (Dk.loaded ls) ∧ (Below B u w4 ∧ B2 ≤ w4.heap.size) ∧ (Dk.loaded ls).pend.length ≤ 0 ∧ (Dk.loaded ls).lies.length ≤ 4096) := by
      refine ⟨⟨?_, ?_, ?_, World.ownsRow_nil _ _ _ _, ?_, ?_, ?_, (fun k hk => by cases hk), Clean.loaded ls⟩, ⟨unhide HBw4, by omega⟩, Nat.le_refl _, (unhide HDa).ok.max⟩
      · rw [hB2]; exact ((unhide HDa).below (unhide HWw3)).below (unhide HWw4)
      · rw [hB2]; exact ((unhide HDb).below (unhide HWw4)).mono (by omega)
      · rw [hB2]; exact (unhide HDc).mono (by omega)
      · intro k hk hx; have := ((unhide HDa).ge k hk).2; have := ((unhide HDb).ge k hx).1; omega
      · intro k hk hx; have := ((unhide HDa).ge k hk).2; have := ((unhide HDc).ge k hx).1; omega
      · intro k hk hx; have := ((unhide HDb).ge k hk).2; have := ((unhide HDc).ge k hx).1; omega
    clear hX2 hX3 hX3' hX4 hX4' hB2 HDa HDb HDc HBX2 HBX3 HBX4 HWX2 HWX3 HWX4 HWw2 HWw3 HWw4 HBw2 HBw3 HBw4 HBw1
    go_wp2
    go_loopw [11, 12] (fun v vi wr => ∃ (k : Nat) (Fa Fb Fc : List Nat) (d : Dk), k ≤ m ∧ vi = .int .i64 k ∧ Hid (Tri B2 wr a b c Fa Fb Fc v d d d ∧ (Below B u wr ∧ B2 ≤ wr.heap.size) ∧ d.pend.length ≤ k ∧ d.lies.length ≤ 4096)) (fun _ vi _ => m - (intOf vi).toNat)
    case atStart => exact ⟨0, Fa, Fb, Fc, _, Nat.zero_le _, rfl, HI0⟩
    case round =>
      clear HI0 Fa Fb Fc
      obtain ⟨k, Fa, Fb, Fc, d, hk, rfl, HI⟩ := hrel
      by_cases hlt : k < m
      · have hki : (k : Int) < (m : Int) := by omega
        have hkl : k < l.length := by rw [← unhide HM]; exact hlt
        obtain ⟨sb, so, hao, hbB, hat⟩ := ((unhide HS).below (unhide HI).2.1.1).at' (by omega)
        subst hao
        have HAT := hide (hat k hkl)
        have HSB := hide hbB
        have HOK := hide ((unhide HS).ok _ (List.getElem_mem hkl))
        have hix := ixSteps sb so m cap2 k hlt
        clear hat hbB
        obtain ⟨x, hx⟩ : ∃ x, x = l[k] := ⟨_, rfl⟩
        rw [← hx] at HAT HOK
        clear hx hkl
        obtain ⟨o7, ho7⟩ : ∃ z, z = so + k * 7 := ⟨_, rfl⟩
        rw [← ho7] at hix HAT
        clear ho7
        have HR7 := hide (unhide HAT).range
        obtain ⟨t0, b0, p0, l0⟩ := unhide HI
        obtain ⟨C, hC⟩ : ∃ C, C = x.cs := ⟨_, rfl⟩
        have HC1 : Hid (C.size = 7) := by rw [hC]; exact x.cs_size
        rw [← hC] at HR7
        have HCX := hide hC
        clear hC
        have hvo : u11.oneCell' = true := by obtain ⟨ao, c, e⟩ := ownsRow_len t0.own; rw [e]; rfl
        clear t0 b0 p0 l0
        go_wp2_with (refine wpList_load_mid (by rfl) 47 (.tmp 79) (by rfl) sb o7 (by rfl) C.toList _ (unhide HR7) stepUnd rfl (by rw [Array.length_toList, unhide HC1]; exact stepInfo) ?_; simp only [Act.put, List.setIfInBounds_toArray, List.set_cons_zero, List.set_cons_succ, Array.toArray_toList])
        have HDO := hide (lDoes (unhide HI).1.da (unhide HI).1.clean (unhide HI).2.1.2 (by have := (unhide HI).2.2.1; omega) d.pend (by have := (unhide HI).2.2.1; omega) (unhide HI).1.own (fun k hk => ((unhide HI).1.va k hk).1) x (unhide HOK))
        rw [← unhide HCX] at HDO
        refine (unhide HDO).mono ?_
        rintro e w5 ⟨v5, F5, p5, rfl, hd, ho, hpe, hpl, hu, hf, hv, hvF⟩
        obtain rfl := hpe rfl
        have HT5 := hide ((unhide HI).1.stepA hd ho hu hf hv hvF)
        have HB5 : Hid (Below B u w5 ∧ B2 ≤ w5.heap.size) := ⟨(unhide HI).2.1.1.trans (hu.below (unhide HLe _ (unhide HI).2.1.1) (fun k hk => Nat.le_trans (unhide HGE) ((unhide HI).1.geA k hk))), Nat.le_trans (unhide HI).2.1.2 hu.size⟩
        have hv5o : v5.oneCell' = true := by obtain ⟨ao, c, e⟩ := ownsRow_len ho; rw [e]; rfl
        have HR75 : Hid (w5.rangeAt sb o7 C.toList) := by rw [unhide HCX]; exact (((unhide HS).below (unhide HB5).1).range5 (unhide HAT) (unhide HI).2.1.1 (unhide HB5).1 (unhide HSB))
        clear hd ho hpe hpl hu hf hv hvF HDO
        go_wp2_with (refine wpList_load_mid (by rfl) 47 (.tmp 86) (by rfl) sb o7 (by rfl) C.toList _ (unhide HR75) stepUnd rfl (by rw [Array.length_toList, unhide HC1]; exact stepInfo) ?_; simp only [Act.put, List.setIfInBounds_toArray, List.set_cons_zero, List.set_cons_succ, Array.toArray_toList])
        have HDO := hide (lDoes (unhide HT5).db (unhide HI).1.clean (unhide HB5).2 (by have := (unhide HI).2.2.1; omega) [] (Nat.zero_le _) (World.ownsRow_nil _ _ _ _) (fun k hk => by cases hk) x (unhide HOK))
        rw [← unhide HCX] at HDO
        refine (unhide HDO).mono ?_
        rintro e w6 ⟨v6, F6, p6, rfl, hd, ho, hpe, hpl, hu, hf, hv, hvF⟩
        rw [show (Value.slice none 0 0).ownBlock.toList = [] from rfl, List.append_nil] at hu
        have HT6 := hide ((unhide HT5).stepB hd hu hf)
        have HB6 : Hid (Below B u w6 ∧ B2 ≤ w6.heap.size) := ⟨(unhide HB5).1.trans (hu.below (unhide HLe _ (unhide HB5).1) (fun k hk => Nat.le_trans (unhide HGE) ((unhide HT5).db.ge k hk).1)), Nat.le_trans (unhide HB5).2 hu.size⟩
        have HR76 : Hid (w6.rangeAt sb o7 C.toList) := by rw [unhide HCX]; exact (((unhide HS).below (unhide HB6).1).range5 (unhide HAT) (unhide HI).2.1.1 (unhide HB6).1 (unhide HSB))
        clear hd ho hpe hpl hu hf hv hvF HDO HR75
        go_wp2_with (refine wpList_load_mid (by rfl) 47 (.tmp 93) (by rfl) sb o7 (by rfl) C.toList _ (unhide HR76) stepUnd rfl (by rw [Array.length_toList, unhide HC1]; exact stepInfo) ?_; simp only [Act.put, List.setIfInBounds_toArray, List.set_cons_zero, List.set_cons_succ, Array.toArray_toList])
        have HDO := hide (lDoes (unhide HT6).dc (unhide HI).1.clean (unhide HB6).2 (by have := (unhide HI).2.2.1; omega) [] (Nat.zero_le _) (World.ownsRow_nil _ _ _ _) (fun k hk => by cases hk) x (unhide HOK))
        rw [← unhide HCX] at HDO
        refine (unhide HDO).mono ?_
        rintro e w7 ⟨v7, F7, p7, rfl, hd, ho, hpe, hpl, hu, hf, hv, hvF⟩
        rw [show (Value.slice none 0 0).ownBlock.toList = [] from rfl, List.append_nil] at hu
        have HT7 := hide ((unhide HT6).stepC hd hu hf)
        have HB7 : Hid (Below B u w7 ∧ B2 ≤ w7.heap.size) := ⟨(unhide HB6).1.trans (hu.below (unhide HLe _ (unhide HB6).1) (fun k hk => Nat.le_trans (unhide HGE) ((unhide HT6).dc.ge k hk).1)), Nat.le_trans (unhide HB6).2 hu.size⟩
        have HPL : Hid ((d.act x).pend.length ≤ k + 1 ∧ (d.act x).lies.length ≤ 4096) := ⟨by have := (unhide HI).1.clean.act_pend x; have := (unhide HI).2.2.1; omega, by rw [(unhide HI).1.clean.act_lies x]; exact (unhide HI).2.2.2⟩
        clear hd ho hpe hpl hu hf hv hvF HDO HR76 HT5 HT6 HB5 HB6
        go_wp2
        go_roundw
        case rel => exact ⟨k + 1, F5, F6, F7, d.act x, by omega, by go_num, hide ⟨unhide HT7, unhide HB7, (unhide HPL).1, (unhide HPL).2⟩⟩
        case measure => simp [intOf]; omega
      · have hkk : k = m := by omega
        subst hkk
        obtain ⟨ao3, c3, hv3⟩ := ownsRow_len (unhide HI).1.own
        have hpm : d.pend.length ≤ 2000000 := by have := (unhide HI).2.2.1; omega
        obtain ⟨q, hq⟩ : ∃ q, q = d.pend.length := ⟨_, rfl⟩
        rw [← hq] at hv3 hpm
        have HQ := hide hq
        clear hq
        subst hv3
        go_wp2_with fail
        refine (kDurableD (unhide HI).1.dc).mono ?_
        rintro e w5 ⟨rfl, hx, hb, hs⟩
        obtain ⟨R1, hR1⟩ : ∃ z, z = wr.heap.size := ⟨_, rfl⟩
        rw [← hR1] at hx
        rw [← hR1]
        have HT5 := hide ((unhide HI).1.below hb)
        have HB5 : Hid (Below B u w5 ∧ B2 ≤ w5.heap.size) := ⟨(unhide HI).2.1.1.trans (hb.mono (unhide HLe _ (unhide HI).2.1.1)), Nat.le_trans (unhide HI).2.1.2 hb.size⟩
        have HX5 := hide hx
        have HRF : Hid (R1 ∉ Fa ∧ R1 ∉ Fb ∧ R1 ∉ Fc) := ⟨fun h => by have := ((unhide HI).1.da.ge _ h).2; omega, fun h => by have := ((unhide HI).1.db.ge _ h).2; omega, fun h => by have := ((unhide HI).1.dc.ge _ h).2; omega⟩
        clear hx hb hs hR1
        go_wp2_with fail
        refine (kSyncN (unhide HT5).da (by rw [← unhide HQ]; omega) _ (unhide HI).1.clean.sync).mono ?_
        rintro e w6 ⟨rfl, F6, hd, hu, hf⟩
        have HX6 : Hid (w6.heap[R1]? = some (.cells (strs d.lies) 9 (0, 0))) := (hu.block R1 (Array.getElem?_eq_some_iff.1 (unhide HX5)).1 (unhide HRF).1).trans (unhide HX5)
        have HDA6 := hide hd
        have HDB6 : Hid (Dsk B2 w6 b Fb d) := (unhide HT5).db.upd hu (fun k hk hx => (unhide HT5).ab k hx hk)
        have HDC6 : Hid (Dsk B2 w6 c Fc d) := (unhide HT5).dc.upd hu (fun k hk hx => (unhide HT5).ac k hx hk)
        have HAB : Hid ((∀ k ∈ F6, k ∉ Fb) ∧ (∀ k ∈ F6, k ∉ Fc)) := ⟨fun k hk => (unhide HT5).ab k (hf k hk), fun k hk => (unhide HT5).ac k (hf k hk)⟩
        have HB6 : Hid (Below B u w6 ∧ B2 ≤ w6.heap.size) := ⟨(unhide HB5).1.trans (hu.below (unhide HLe _ (unhide HB5).1) (fun k hk => Nat.le_trans (unhide HGE) ((unhide HT5).da.ge k hk).1)), Nat.le_trans (unhide HB5).2 hu.size⟩
        have HR6 : Hid (R1 ∉ F6) := fun h => (unhide HRF).1 (hf _ h)
        clear hd hu hf HX5 HB5
        go_wp2_with fail
        refine (lYes q hpm w6).mono ?_
        rintro e w7 ⟨v7, rfl, hy, hu⟩
        obtain ⟨ao7, c7, hv7, hks⟩ := yesKs hy Fb (fun k hk => ((unhide HDB6).ge k hk).2)
        subst hv7
        have HKS := hide hks
        have HX7 : Hid (w7.heap[R1]? = some (.cells (strs d.lies) 9 (0, 0))) := (hu.block R1 (Array.getElem?_eq_some_iff.1 (unhide HX6)).1 (by simp)).trans (unhide HX6)
        have HDA7 : Hid (Dsk B2 w7 a F6 (d.settle fun _ => 1024)) := (unhide HDA6).upd hu (fun _ _ => by simp)
        have HDB7 : Hid (Dsk B2 w7 b Fb d) := (unhide HDB6).upd hu (fun _ _ => by simp)
        have HDC7 : Hid (Dsk B2 w7 c Fc d) := (unhide HDC6).upd hu (fun _ _ => by simp)
        have HB7 : Hid (Below B u w7 ∧ B2 ≤ w7.heap.size) := ⟨(unhide HB6).1.trans (hu.below (unhide HLe _ (unhide HB6).1) (fun k hk => by cases hk)), Nat.le_trans (unhide HB6).2 hu.size⟩
        clear hy hu hks HX6 HDA6 HDB6 HDC6 HB6
        go_wp2_with fail
        have HCR := hide (kCrash (unhide HDB7) (by rw [← unhide HQ]; omega) ao7 (List.replicate q true) c7 (-1) 0 (unhide HKS))
        rw [List.length_replicate] at HCR
        refine (unhide HCR).mono ?_
        rintro e w8 ⟨rfl, F8, hd, hu, hf⟩
        have HX8 : Hid (w8.heap[R1]? = some (.cells (strs d.lies) 9 (0, 0))) := (hu.block R1 (Array.getElem?_eq_some_iff.1 (unhide HX7)).1 (unhide HRF).2.1).trans (unhide HX7)
        have HDB8 := hide hd
        have HDA8 : Hid (Dsk B2 w8 a F6 (d.settle fun _ => 1024)) := (unhide HDA7).upd hu (fun k hk => (unhide HAB).1 k hk)
        have HDC8 : Hid (Dsk B2 w8 c Fc d) := (unhide HDC7).upd hu (fun k hk hx => (unhide HT5).bc k hx hk)
        have HBC : Hid (∀ k ∈ F8, k ∉ Fc ∧ k ∉ F6) := fun k hk => ⟨(unhide HT5).bc k (hf k hk), fun hx => (unhide HAB).1 k hx (hf k hk)⟩
        have HB8 : Hid (Below B u w8 ∧ B2 ≤ w8.heap.size) := ⟨(unhide HB7).1.trans (hu.below (unhide HLe _ (unhide HB7).1) (fun k hk => Nat.le_trans (unhide HGE) ((unhide HDB7).ge k hk).1)), Nat.le_trans (unhide HB7).2 hu.size⟩
        clear hd hu hf HX7 HDA7 HDB7 HDC7 HB7 HCR HKS
        go_wp2_with fail
        refine (kCrash (unhide HDC8) (by rw [← unhide HQ]; omega) none [] 0 (q : Int) 0 (fun h => absurd h (by simp))).mono ?_
        rintro e w9 ⟨rfl, F9, hd, hu, hf⟩
        have HX9 : Hid (w9.heap[R1]? = some (.cells (strs d.lies) 9 (0, 0))) := (hu.block R1 (Array.getElem?_eq_some_iff.1 (unhide HX8)).1 (unhide HRF).2.2).trans (unhide HX8)
        have hcl : (d.crash (share [] (q : Int) 0)).lies = d.lies := by rw [unhide HQ]; exact crash_none (unhide HI).1.da.ok
        have HDC9 := hide hd
        have HCL := hide hcl
        have HDA9 : Hid (Dsk B2 w9 a F6 (d.settle fun _ => 1024)) := (unhide HDA8).upd hu (fun k hk => (unhide HAB).2 k hk)
        have HDB9 : Hid (Dsk B2 w9 b F8 (d.crash (share (List.replicate q true) (-1) 0))) := (unhide HDB8).upd hu (fun k hk => (unhide HBC k hk).1)
        have HB9 : Hid (Below B u w9) := (unhide HB8).1.trans (hu.below (unhide HLe _ (unhide HB8).1) (fun k hk => Nat.le_trans (unhide HGE) ((unhide HDC8).ge k hk).1))
        have HEQ : Hid ((d.crash (share (List.replicate q true) (-1) 0)).lies = (d.settle fun _ => 1024).lies) := by rw [unhide HQ]; exact crash_all d
        clear hd hu hf HX8 HDA8 HDB8 HDC8 HB8 hcl
        have HLN : Hid ((d.settle fun _ => 1024).lies.length ≤ 4096) := (unhide HDA9).ok.max
        go_wp2_with fail
        refine (kDurableD (unhide HDA9)).mono ?_
        rintro e wa ⟨rfl, hx, hb, hs⟩
        obtain ⟨R2, hR2⟩ : ∃ z, z = w9.heap.size := ⟨_, rfl⟩
        rw [← hR2] at hx
        rw [← hR2]
        have HXa := hide hx
        have HDBa := hide ((unhide HDB9).below hb)
        have HDCa := hide ((unhide HDC9).below hb)
        have HX1a : Hid (wa.heap[R1]? = some (.cells (strs d.lies) 9 (0, 0))) := (hb.block R1 (Array.getElem?_eq_some_iff.1 (unhide HX9)).1).trans (unhide HX9)
        have HBa : Hid (Below B u wa) := (unhide HB9).trans (hb.mono (unhide HLe _ (unhide HB9)))
        clear hx hb hs hR2 HDB9 HDC9 HX9 HB9
        go_wp2_with fail
        refine (kDurableD (unhide HDBa)).mono ?_
        rintro e wb ⟨rfl, hx, hb, hs⟩
        obtain ⟨R3, hR3⟩ : ∃ z, z = wa.heap.size := ⟨_, rfl⟩
        rw [unhide HEQ] at hx
        rw [← hR3] at hx
        rw [← hR3, unhide HEQ]
        have HXb := hide hx
        have HX2b : Hid (wb.heap[R2]? = some (.cells (strs (d.settle fun _ => 1024).lies) 9 (0, 0))) := (hb.block R2 (Array.getElem?_eq_some_iff.1 (unhide HXa)).1).trans (unhide HXa)
        have HDCb := hide ((unhide HDCa).below hb)
        have HX1b : Hid (wb.heap[R1]? = some (.cells (strs d.lies) 9 (0, 0))) := (hb.block R1 (Array.getElem?_eq_some_iff.1 (unhide HX1a)).1).trans (unhide HX1a)
        have HBb : Hid (Below B u wb) := (unhide HBa).trans (hb.mono (unhide HLe _ (unhide HBa)))
        clear hx hb hs hR3 HDBa HDCa HX1a HBa HXa
        go_wp2_with fail
        refine (lSameL (d.settle fun _ => 1024).lies R2 R3 _ _ _ _ wb (unhide HX2b) (unhide HXb) rfl rfl (by have := unhide HLN; omega)).mono ?_
        rintro e wc ⟨rfl, hu⟩
        have HDCc : Hid (Dsk B2 wc c F9 (d.crash (share [] (q : Int) 0))) := (unhide HDCb).upd hu (fun _ _ => by simp)
        have HX1c : Hid (wc.heap[R1]? = some (.cells (strs d.lies) 9 (0, 0))) := (hu.block R1 (Array.getElem?_eq_some_iff.1 (unhide HX1b)).1 (by simp)).trans (unhide HX1b)
        have HBc : Hid (Below B u wc) := (unhide HBb).trans (hu.below (unhide HLe _ (unhide HBb)) (fun k hk => by cases hk))
        clear hu HDCb HX1b HBb HX2b HXb
        go_wp2_with fail
        refine (kDurableD (unhide HDCc)).mono ?_
        rintro e wd ⟨rfl, hx, hb, hs⟩
        obtain ⟨R4, hR4⟩ : ∃ z, z = wc.heap.size := ⟨_, rfl⟩
        rw [unhide HCL] at hx
        rw [← hR4] at hx
        rw [← hR4, unhide HCL]
        have HXd := hide hx
        have HX1d : Hid (wd.heap[R1]? = some (.cells (strs d.lies) 9 (0, 0))) := (hb.block R1 (Array.getElem?_eq_some_iff.1 (unhide HX1c)).1).trans (unhide HX1c)
        have HBd : Hid (Below B u wd) := (unhide HBc).trans (hb.mono (unhide HLe _ (unhide HBc)))
        clear hx hb hs hR4 HDCc HX1c HBc
        go_wp2_with fail
        refine (lSameL d.lies R4 R1 _ _ _ _ wd (unhide HXd) (unhide HX1d) rfl rfl (by have := (unhide HI).2.2.2; omega)).mono ?_
        rintro e we ⟨rfl, hu⟩
        have HBe : Hid (Below B u we) := (unhide HBd).trans (hu.below (unhide HLe _ (unhide HBd)) (fun k hk => by cases hk))
        clear hu
        go_wp2
        go_ret
        exact ⟨rfl, unhide HBe⟩
end Go.Proofs.Ytfdibmbffmgikaa
