/- The journal: the closures of Put, on a disk. -/
import Derived.Test.YtfdfbjijomepgaaDoorJd
import Derived.Test.YtfdfbjijomepgaaDoorJe
namespace Go.Proofs.YtfdfbjijomepgaaDoor
open Go.RowKit

/-- one value in a block of its own -/
def Bx (u : World) (N : Nat) (t : TypeId) (v : Value) : Prop := u.heap[N]? = some (.cells #[v] t (0, 0))
theorem Bx.cell {u : World} {N : Nat} {t : TypeId} {v : Value} (h : Bx u N t v) : u.cell? ⟨N, 0, none⟩ = some v := by simp [World.cell?, show u.heap[N]? = _ from h]
theorem Bx.frozen {u : World} {N : Nat} {t : TypeId} {v : Value} (h : Bx u N t v) : u.frozen? ⟨N, 0, none⟩ = false := by simp [World.frozen?, show u.heap[N]? = _ from h]
theorem Bx.lt {u : World} {N : Nat} {t : TypeId} {v : Value} (h : Bx u N t v) : N < u.heap.size := (Array.getElem?_eq_some_iff.1 h).1
theorem Bx.new (u : World) (t : TypeId) (v : Value) : Bx (u.alloc (.cells #[v] t)) u.heap.size t v := heap_alloc_new u _
theorem Bx.alloc {u : World} {N : Nat} {t : TypeId} {v : Value} (h : Bx u N t v) (o : Obj) : Bx (u.alloc o) N t v := (Below.heap_alloc u o N h.lt).trans h
theorem Bx.set {u : World} {N : Nat} {t : TypeId} {v : Value} (h : Bx u N t v) (v' : Value) : Bx (u.setCell ⟨N, 0, none⟩ v') N t v' := by
  have := D.heapCell_same h 0 v'
  simpa [Bx] using this
theorem Bx.up {u u' : World} {N : Nat} {t : TypeId} {v : Value} {F : List Nat} (h : Bx u N t v) (hu : D.UpS u u' F) (hn : N ∉ F) : Bx u' N t v := (hu.block N h.lt hn).trans h
section
variable {B : Nat} {u : World} {Dd : Nat} {F : List Nat} {d : D.Dk}
set_option maxRecDepth 100000 in
set_option maxHeartbeats 1000000 in
/-- a page laid down: what the innermost closure does -/
theorem jAct (h : D.Dsk B u Dd F d) (hB : B ≤ u.heap.size) (hm : d.pend.length ≤ 1000000000) (p : Pg) (hf : p.Fit) (hp : p.wrong = 0) (hn : p.num ≤ 1000000) (hT : Tab u) (Nd Na Nk Ns Nb : Nat)
    (bd : Bx u Nd 80 (.iface 50 (.pointer (some ⟨Dd, 0, none⟩)))) (ba : Bx u Na 3 (.int .i64 (p.num : Int))) (bk : Bx u Nk 5 (.int .u8 (p.kind : Int))) (bs : Bx u Ns 22 (.int .u64 (p.ser : Int))) (bb : Bx u Nb 9 (.string p.body)) :
    Calls Tryd.prog 32 #[.pointer (some ⟨Nd, 0, none⟩), .pointer (some ⟨Na, 0, none⟩), .pointer (some ⟨Nk, 0, none⟩), .pointer (some ⟨Ns, 0, none⟩), .pointer (some ⟨Nb, 0, none⟩)] u fun e u' => e = .returned (.int .i64 (d.write (p.num : Int) p.enc).1) ∧ ∃ F', D.Dsk B u' Dd F' (d.write (p.num : Int) p.enc).2 ∧ D.UpS u u' F ∧ ∀ k ∈ F', k ∈ F ∨ u.heap.size ≤ k := by
  have HW := hide (jWrite h hB hm (p.num : Int) p hf hp hT)
  have zd := bd.cell
  have za := ba.cell
  have zk := bk.cell
  have zs := bs.cell
  have zb := bb.cell
  obtain ⟨kd, nm, sr, bo⟩ := p
  simp only [Pg.cs] at HW
  simp only at zk za zs zb hn
  obtain ⟨R, hR⟩ : ∃ R, R = d.write (nm : Int) (Pg.enc ⟨kd, nm, sr, bo⟩) := ⟨_, rfl⟩
  simp only [← hR] at HW ⊢
  have hw : IntKind.u32.wrap (nm : Int) = (nm : Int) := by rw [IntKind.wrap_u32]; omega
  obtain ⟨r1, r2⟩ := R
  clear h hf hp hT bd ba bk bs bb hR hB hm
  go_enter Tryd.func32, Tryd.ntmps32
  go_wp2_with (go_at_call 33; refine (unhide HW).mono ?_; rintro e w1 ⟨rfl, hw1⟩; have HX := hide hw1; clear hw1)
  go_ret
  exact ⟨rfl, unhide HX⟩
/-- what Put's closures share: the device, the serial, the error that was noted, and do -/
structure Pu (B : Nat) (u : World) (Dd Nd Ns Nn No : Nat) (F : List Nat) (d : D.Dk) (s : Nat) (c : Int) : Prop where
  dsk : D.Dsk B u Dd F d
  hB : B ≤ u.heap.size
  bd : Bx u Nd 80 (.iface 50 (.pointer (some ⟨Dd, 0, none⟩)))
  bs : Bx u Ns 22 (.int .u64 (s : Int))
  bn : Bx u Nn 27 (.int .i64 c)
  bo : Bx u No 83 (.func (.func 30) #[] #[.pointer (some ⟨Nn, 0, none⟩)])
  nf : Nd ∉ F ∧ Ns ∉ F ∧ Nn ∉ F ∧ No ∉ F
  ne : Nd ≠ Nn ∧ Ns ≠ Nn ∧ No ≠ Nn
  tab : Tab u
  b0 : 0 < B
  nb : B ≤ Nd ∧ B ≤ Ns ∧ B ≤ Nn ∧ B ≤ No
variable {Nd Ns Nn No s : Nat} {c : Int}
theorem Pu.lts (h : Pu B u Dd Nd Ns Nn No F d s c) : ∀ k ∈ [Nd, Ns, Nn, No], k < u.heap.size := fun k hk => by
  have h1 := h.bd.lt
  have h2 := h.bs.lt
  have h3 := h.bn.lt
  have h4 := h.bo.lt
  simp at hk
  omega
/-- new memory alone -/
theorem Pu.below {u' : World} (h : Pu B u Dd Nd Ns Nn No F d s c) (hb : Below u.heap.size u u') : Pu B u' Dd Nd Ns Nn No F d s c :=
  ⟨h.dsk.below hb, Nat.le_trans h.hB hb.size, (hb.block _ h.bd.lt).trans h.bd, (hb.block _ h.bs.lt).trans h.bs, (hb.block _ h.bn.lt).trans h.bn, (hb.block _ h.bo.lt).trans h.bo, h.nf, h.ne, h.tab.below hb h.tab.pos, h.b0, h.nb⟩
/-- the disk has changed -/
theorem Pu.disk {u' : World} {F' : List Nat} {d' : D.Dk} (h : Pu B u Dd Nd Ns Nn No F d s c) (hd : D.Dsk B u' Dd F' d') (hu : D.UpS u u' F) (hF : ∀ k ∈ F', k ∈ F ∨ u.heap.size ≤ k) : Pu B u' Dd Nd Ns Nn No F' d' s c := by
  obtain ⟨f1, f2, f3, f4⟩ := h.nf
  have hl := h.lts
  have hn : ∀ k, k ∈ [Nd, Ns, Nn, No] → k ∉ F → k ∉ F' := fun k hk hf hk' => (hF k hk').elim hf (fun h' => by have := hl k hk; omega)
  exact ⟨hd, Nat.le_trans h.hB hu.size, h.bd.up hu f1, h.bs.up hu f2, h.bn.up hu f3, h.bo.up hu f4, ⟨hn _ (by simp) f1, hn _ (by simp) f2, hn _ (by simp) f3, hn _ (by simp) f4⟩, h.ne, h.tab.below (hu.below h.hB fun k hk => (h.dsk.ge k hk).1) h.b0, h.b0, h.nb⟩
/-- another error is noted -/
theorem Pu.note (h : Pu B u Dd Nd Ns Nn No F d s c) (c' : Int) : Pu B (u.setCell ⟨Nn, 0, none⟩ (.int .i64 c')) Dd Nd Ns Nn No F d s c' := by
  have hb : ∀ k, k ≠ Nn → (u.setCell ⟨Nn, 0, none⟩ (.int .i64 c')).heap[k]? = u.heap[k]? := fun k hk => Deep.blk_setCell_other u ⟨Nn, 0, none⟩ _ k hk
  refine ⟨h.dsk.keep fun k hk => hb k (fun e => h.nf.2.2.1 (e ▸ hk)), by simpa [World.setCell] using h.hB, (hb _ h.ne.1).trans h.bd, (hb _ h.ne.2.1).trans h.bs, h.bn.set _, (hb _ h.ne.2.2).trans h.bo, h.nf, h.ne, fun i hi => ?_, h.b0, h.nb⟩
  exact (World.cell?_of_block (a := ⟨0, i, none⟩) (hb 0 (by have := h.nb; have := h.b0; omega))).trans (h.tab i hi)
/-- what is noted, and the disk, behind an act -/
def Noted (c : Int) (d : D.Dk) (r : Int × D.Dk) : Int × D.Dk := if c = 0 then r else (c, d)
set_option maxRecDepth 100000 in
set_option maxHeartbeats 1000000 in
/-- do, with an act that lays a page down -/
theorem jDo (p : Pg) (h : Pu B u Dd Nd Ns Nn No F d p.ser c) (hm : d.pend.length ≤ 1000000000) (hf : p.Fit) (hp : p.wrong = 0) (hn : p.num ≤ 1000000) (Na Nk Nb : Nat)
    (ba : Bx u Na 3 (.int .i64 (p.num : Int))) (bk : Bx u Nk 5 (.int .u8 (p.kind : Int))) (bb : Bx u Nb 9 (.string p.body)) (r : Int × D.Dk) (hr : r = Noted c d (d.write (p.num : Int) p.enc)) :
    Calls Tryd.prog 30 #[.func (.func 32) #[] #[.pointer (some ⟨Nd, 0, none⟩), .pointer (some ⟨Na, 0, none⟩), .pointer (some ⟨Nk, 0, none⟩), .pointer (some ⟨Ns, 0, none⟩), .pointer (some ⟨Nb, 0, none⟩)], .pointer (some ⟨Nn, 0, none⟩)] u fun e u' => e = .returned (.tuple #[]) ∧ ∃ F', Pu B u' Dd Nd Ns Nn No F' r.2 p.ser r.1 ∧ D.UpS u u' (Nn :: F) ∧ ∀ k ∈ F', k ∈ F ∨ u.heap.size ≤ k := by
  by_cases hc : c = 0
  · subst hc
    rw [Noted, if_pos rfl] at hr
    have HA := hide (jAct h.dsk h.hB hm p hf hp hn h.tab Nd Na Nk Ns Nb h.bd ba bk h.bs bb)
    rw [← hr] at HA
    have zn := h.bn.cell
    have HP := hide h
    clear hr h ba bk bb hf hp hn hm
    go_enter Tryd.func30, Tryd.ntmps30
    go_wp2_with fail
    refine (unhide HA).mono ?_
    rintro e w1 ⟨rfl, F1, hd, hu, hF⟩
    have HP1 := hide ((unhide HP).disk hd hu hF)
    have zn1 := (unhide HP1).bn.cell
    have fn1 := (unhide HP1).bn.frozen
    have HU := hide hu
    have HF := hide hF
    clear hd hu hF zn HA
    go_wp2
    go_returns
    exact ⟨rfl, F1, (unhide HP1).note _, ((unhide HU).mono fun k hk => .inl (List.mem_cons_of_mem _ hk)).setCell (.inl (by simp)) _, unhide HF⟩
  · rw [Noted, if_neg hc] at hr
    subst hr
    have zn := h.bn.cell
    have HP := hide h
    clear h ba bk bb hf hp hn hm
    go_enter Tryd.func30, Tryd.ntmps30
    go_wp2
    go_returns
    exact ⟨rfl, F, unhide HP, D.UpS.refl _ _, fun k hk => .inl hk⟩
set_option maxRecDepth 100000 in
set_option maxHeartbeats 1000000 in
/-- lay -/
theorem jLay (p : Pg) (h : Pu B u Dd Nd Ns Nn No F d p.ser c) (hm : d.pend.length ≤ 1000000000) (hf : p.Fit) (hp : p.wrong = 0) (hn : p.num ≤ 1000000) (r : Int × D.Dk) (hr : r = Noted c d (d.write (p.num : Int) p.enc)) :
    Calls Tryd.prog 31 #[.int .i64 (p.num : Int), .int .u8 (p.kind : Int), .string p.body, .pointer (some ⟨No, 0, none⟩), .pointer (some ⟨Nd, 0, none⟩), .pointer (some ⟨Ns, 0, none⟩)] u fun e u' => e = .returned (.tuple #[]) ∧ ∃ F', Pu B u' Dd Nd Ns Nn No F' r.2 p.ser r.1 ∧ D.UpS u u' (Nn :: F) ∧ ∀ k ∈ F', k ∈ F ∨ u.heap.size ≤ k := by
  obtain ⟨u1, hu1⟩ : ∃ z, z = ((u.alloc (.cells #[.int .i64 (p.num : Int)] 3)).alloc (.cells #[.int .u8 (p.kind : Int)] 5)).alloc (.cells #[.string p.body] 9) := ⟨_, rfl⟩
  have hb : Below u.heap.size u u1 := by rw [hu1]; exact (((Below.refl _ u).alloc (Nat.le_refl _) _).alloc (by simp) _).alloc (by simp; omega) _
  have ba : Bx u1 u.heap.size 3 (.int .i64 (p.num : Int)) := by rw [hu1]; exact ((Bx.new u _ _).alloc _).alloc _
  have bk : Bx u1 (u.heap.size + 1) 5 (.int .u8 (p.kind : Int)) := by
    rw [hu1]
    have := (Bx.new (u.alloc (.cells #[.int .i64 (p.num : Int)] 3)) 5 (.int .u8 (p.kind : Int))).alloc (.cells #[.string p.body] 9)
    rwa [World.size_alloc] at this
  have bb : Bx u1 (u.heap.size + 2) 9 (.string p.body) := by
    rw [hu1]
    have := Bx.new ((u.alloc (.cells #[.int .i64 (p.num : Int)] 3)).alloc (.cells #[.int .u8 (p.kind : Int)] 5)) 9 (.string p.body)
    rwa [World.size_alloc, World.size_alloc] at this
  have HD := hide (jDo p (h.below hb) hm hf hp hn _ _ _ ba bk bb r hr)
  have zo := ((h.below hb).bo).cell
  rw [hu1] at zo
  have HU := hide hu1
  have HB := hide hb
  have hmf : ∀ (fn : Fn) (first cap : Array Value) (w : World), (Instr.makeFunc fn first cap).run Tryd.prog w = .ok (.func fn first cap) w := fun _ _ _ _ => rfl
  obtain ⟨nm, hnm⟩ : ∃ z, z = p.num := ⟨_, rfl⟩
  obtain ⟨kd, hkd⟩ : ∃ z, z = p.kind := ⟨_, rfl⟩
  obtain ⟨bd, hbd⟩ : ∃ z, z = p.body := ⟨_, rfl⟩
  rw [← hnm, ← hkd, ← hbd] at zo HU ⊢
  clear h hm hf hp hn hr hu1 hb ba bk bb hnm hkd hbd
  go_enter Tryd.func31, Tryd.ntmps31
  go_wp2_with fail
  rw [← unhide HU]
  refine (unhide HD).mono ?_
  rintro e w2 ⟨rfl, F', hp2, hup, hF⟩
  have HX : Hid (∃ F', Pu B w2 Dd Nd Ns Nn No F' r.2 p.ser r.1 ∧ D.UpS u w2 (Nn :: F) ∧ ∀ k ∈ F', k ∈ F ∨ u.heap.size ≤ k) := ⟨F', hp2, (D.UpS.ofBelow _ (unhide HB)).trans hup (fun k hk => .inl hk), fun k hk => (hF k hk).imp id (fun h => Nat.le_trans (unhide HB).size h)⟩
  clear hp2 hup hF
  go_wp2
  go_returns
  exact ⟨rfl, unhide HX⟩
end
end Go.Proofs.YtfdfbjijomepgaaDoor
