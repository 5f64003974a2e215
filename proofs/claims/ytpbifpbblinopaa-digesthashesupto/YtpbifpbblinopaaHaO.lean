/- Steps that came in. -/
import Derived.Test.YtpbifpbblinopaaHaS
namespace Go.Proofs.Ytpbifpbblinopaa
open Go.ChangeShapes Go.WideShapes Go.ChangeAt Go.RowKit Go.Deep

theorem bulk_pos {H : Type} (d : DataW H) : 1 ≤ Rows.uptoBulk d := by
  cases d with
  | lit x => cases x <;> simp [Rows.uptoBulk]
  | nil => simp [Rows.uptoBulk]
  | ptr d => simp [Rows.uptoBulk]
  | slice a b => simp [Rows.uptoBulk]
  | agg a => simp [Rows.uptoBulk]
  | iface a b => simp [Rows.uptoBulk]
  | map a => simp [Rows.uptoBulk]
  | held a => simp [Rows.uptoBulk]
theorem bulk_len {H : Type} : ∀ (l : List (DataW H)), l.length ≤ Rows.uptoBulkAll l
  | [] => by simp [Rows.uptoBulkAll]
  | d :: r => by
    have := bulk_len r
    have := bulk_pos d
    simp only [Rows.uptoBulkAll, List.length_cons]
    omega
theorem wts_bulk {H : Type} : ∀ (l : List Stp) (el : List (DataW H)), l.length = el.length → (∀ (j : Nat) (h1 : j < l.length) (h2 : j < el.length), l[j].bs.length ≤ Rows.uptoBulk el[j]) → wts l ≤ Rows.uptoBulkAll el
  | [], _, _, _ => Nat.zero_le _
  | x :: r, [], h, _ => by simp at h
  | x :: r, d :: el, h, hp => by
    have h0 := hp 0 (by simp) (by simp)
    have := wts_bulk r el (by simpa using h) (fun j h1 h2 => by have := hp (j + 1) (by simpa using h1) (by simpa using h2); simpa using this)
    simp only [wts, Rows.uptoBulkAll]
    simp only [List.getElem_cons_zero] at h0
    omega
section
variable {H : Type} {enc : TypeId × Value → H} {W : World}
theorem cellsStep : Try.prog.cellsOf 48 = 4 := by kernel_rfl
theorem cBytes : Try.prog.cellsOf 24 = 1 := by kernel_rfl
theorem bytes_of_trod {base fuel : Nat} {spare : Nat → Bool} {held : Bool} {v : Value} {x : DataW H × List MemPlace} (h : DataW.trod enc Try.prog W base spare held fuel 24 [v] = some x) :
    ∃ (ao : Option Addr) (bs : List UInt8) (cap : Nat), v = .slice ao bs.length cap ∧ Lies W ao bs ∧ bs.length ≤ Rows.uptoBulk x.1 := by
  rcases open_slice1 Try.underlying24 cU8 h with ⟨hcs, hx⟩ | ⟨a, len, cap, m, n, V, D, Pl, hcs, _, hl, hm, hmm, hx, hel⟩
  · cases hcs
    exact ⟨none, [], 0, rfl, fun h0 => absurd h0 (by simp), Nat.zero_le _⟩
  · cases hcs
    have hmle : len ≤ m := by rw [hmm]; split <;> omega
    have each : ∀ i, i < len → ∃ y : UInt8, W.cell? (a.add i) = some (.int .u8 (y.toNat : Int)) := by
      intro i hi
      obtain ⟨h1, h2⟩ := hel i (by omega)
      obtain ⟨z, e, _, hw⟩ := DataW.trod_int Try.underlying5 h2
      have hb := bounds_u8 hw
      obtain ⟨k, rfl⟩ := Int.eq_ofNat_of_zero_le hb.1
      simp at e
      refine ⟨UInt8.ofNat k, ?_⟩
      rw [h1, e, UInt8.toNat_ofNat', Nat.mod_eq_of_lt (by omega)]
    obtain ⟨bs, hbl, hbs⟩ := choose_list _ len each
    refine ⟨some a, bs, cap, by rw [hbl], fun h0 => ?_, ?_⟩
    · obtain ⟨b, off, spot⟩ := a
      have hs : spot = none := by
        have := World.cell?_spot (hbs 0 h0)
        simpa [Addr.add] using this
      subst hs
      refine ⟨b, off, rfl, ?_, fun j hj => ?_⟩
      · have := World.block_lt_of_cell? W _ (hbs 0 h0)
        rwa [Addr.add_mid] at this
      · have := hbs j hj
        rwa [Addr.add_mid] at this
    · rw [hx]
      have hb := bulk_len ((List.range len).map D)
      simp only [List.length_map, List.length_range] at hb
      simp only [Rows.uptoBulk]
      omega
theorem open_step {base fuel : Nat} {spare : Nat → Bool} {held : Bool} {cs : List Value} {x : DataW H × List MemPlace} (h : DataW.trod enc Try.prog W base spare held fuel 48 cs = some x) :
    ∃ s : Stp, s.Ok ∧ cs = [.int .i64 s.kind, .int .i64 s.on, .int .i64 s.to, .slice s.ao s.bs.length s.cap] ∧ Lies W s.ao s.bs ∧ s.bs.length ≤ Rows.uptoBulk x.1 := by
  obtain ⟨xs, n, _, rfl, hl, hlen, hf⟩ := DataW.trod_struct Try.underlying48 h
  rw [cellsStep] at hl
  match xs, hlen, cs, hl with
  | [y0, y1, y2, y3], _, [v0, v1, v2, v3], _ =>
    have g0 : DataW.trod enc Try.prog W base spare held n 3 (List.take (Try.prog.cellsOf 3) (List.drop 0 [v0, v1, v2, v3])) = some y0 := hf 0 _ rfl
    rw [cInt] at g0
    have g1 : DataW.trod enc Try.prog W base spare held n 3 (List.take (Try.prog.cellsOf 3) (List.drop 1 [v0, v1, v2, v3])) = some y1 := hf 1 _ rfl
    rw [cInt] at g1
    have g2 : DataW.trod enc Try.prog W base spare held n 3 (List.take (Try.prog.cellsOf 3) (List.drop 2 [v0, v1, v2, v3])) = some y2 := hf 2 _ rfl
    rw [cInt] at g2
    have g3 : DataW.trod enc Try.prog W base spare held n 24 (List.take (Try.prog.cellsOf 24) (List.drop 3 [v0, v1, v2, v3])) = some y3 := hf 3 _ rfl
    rw [cBytes] at g3
    obtain ⟨n0, e0, _, w0⟩ := DataW.trod_int Try.underlying3 g0
    obtain ⟨n1, e1, _, w1⟩ := DataW.trod_int Try.underlying3 g1
    obtain ⟨n2, e2, _, w2⟩ := DataW.trod_int Try.underlying3 g2
    simp only [List.drop_zero, List.drop_succ_cons, List.take_succ_cons, List.take_zero, List.cons.injEq, and_true] at e0 e1 e2 g3
    obtain ⟨ao, bs, cap, rfl, hlie, hbk⟩ := bytes_of_trod g3
    subst e0 e1 e2
    refine ⟨⟨n0, n1, n2, ao, bs, cap⟩, ⟨bounds_i64 w0, bounds_i64 w1, bounds_i64 w2⟩, rfl, hlie, ?_⟩
    simp only [List.map_cons, List.map_nil, Rows.uptoBulk, Rows.uptoBulkAll]
    omega
theorem open_steps {base : Nat} {v : Value} {d : DataW H} {ps : List MemPlace} (hval : Value.okWide Try.prog W .any base 41 v) (h : DataW.Trod enc Try.prog W 0 (fun _ => true) true 41 v d ps) :
    ∃ (ao : Option Addr) (l : List Stp) (cap : Nat), v = .slice ao l.length cap ∧ Stps W ao l ∧ (l = [] ∨ ∃ el sp, d = .slice el sp ∧ l.length ≤ Rows.uptoBulkAll el ∧ wts l ≤ Rows.uptoBulkAll el) := by
  obtain ⟨a, len, cap, rfl⟩ := okWide_slice Try.underlying41 hval
  obtain ⟨fuel, hf⟩ := h
  rcases open_slice Try.underlying41 hf with ⟨hcs, hx⟩ | ⟨x, l', c', m, n, D, Pl, hcs, _, hl, hm, hmm, hx, hel⟩
  · simp [Value.cells] at hcs
    obtain ⟨rfl, rfl, rfl⟩ := hcs
    exact ⟨none, [], 0, rfl, ⟨by simp, .inl rfl⟩, .inl rfl⟩
  · simp [Value.cells] at hcs
    obtain ⟨rfl, rfl, rfl⟩ := hcs
    simp only [Prod.mk.injEq] at hx
    obtain ⟨rfl, -⟩ := hx
    have hmle : len ≤ m := by rw [hmm]; simp; exact hl
    have hspot : 0 < len → x.spot = none := by
      intro h0
      obtain ⟨cs', h1, h2⟩ := hel 0 (by omega)
      rw [cellsStep] at h1
      obtain ⟨s, ok, rfl, _, _⟩ := open_step h2
      obtain ⟨_, _, hc⟩ := World.cells?_some h1
      have := World.cell?_spot (hc 0 (by simp))
      simpa [Addr.add] using this
    have each : ∀ i, i < len → ∃ s : Stp, s.Ok ∧ Lies W s.ao s.bs ∧ s.bs.length ≤ Rows.uptoBulk (D i) ∧ ∃ b off, x = ⟨b, off, none⟩ ∧ b < W.heap.size ∧ s.At W b (off + i * 4) := by
      intro i hi
      obtain ⟨cs', h1, h2⟩ := hel i (by omega)
      obtain ⟨s, ok, rfl, hlie, hbk⟩ := open_step h2
      rw [cellsStep] at h1
      obtain ⟨_, _, hc⟩ := World.cells?_some h1
      have hsp := hspot (by omega)
      obtain ⟨b, off, spot⟩ := x
      simp only at hsp
      subst hsp
      simp only [Addr.add_mid] at hc
      have hb : b < W.heap.size := World.block_lt_of_cell? W _ (hc 0 (by decide))
      exact ⟨s, ok, hlie, hbk, b, off, rfl, hb, hc 0 (by decide), hc 1 (by decide), hc 2 (by decide), hc 3 (by decide), hlie⟩
    obtain ⟨l, hll, hi⟩ := choose_list _ len each
    refine ⟨some x, l, cap, by rw [hll], ⟨fun y hy => ?_, ?_⟩, .inr ⟨_, _, rfl, ?_, ?_⟩⟩
    · obtain ⟨j, hj, rfl⟩ := List.mem_iff_getElem.1 hy
      exact (hi j hj).1
    · by_cases h0 : l = []
      · exact .inl h0
      · right
        have hpos : 0 < l.length := List.length_pos_iff.2 h0
        obtain ⟨_, _, _, b, off, rfl, hb, _⟩ := hi 0 hpos
        refine ⟨b, off, rfl, hb, fun j hj => ?_⟩
        obtain ⟨_, _, _, b', off', e, _, hat⟩ := hi j hj
        cases e
        exact hat
    · have hb := bulk_len ((List.range len).map D)
      simp only [List.length_map, List.length_range] at hb
      omega
    · refine wts_bulk l _ (by simp [hll]) (fun j h1 h2 => ?_)
      simp only [List.getElem_map, List.getElem_range]
      exact (hi j h1).2.2.1
end
end Go.Proofs.Ytpbifpbblinopaa
