/- Nodes: rising; a node that is written over: what stays. -/
import Derived.Test.YtppmpomfihalfaaNrv
import Derived.Laws.BitsLemmas
import Derived.Laws.IdiomStrings
namespace Go.Proofs.Ytppmpomfihalfaa
open Go.RowKit

theorem byte_of (n : Int) : ∃ b : UInt8, IntKind.u8.wrap n = (b.toNat : Int) := by
  refine ⟨UInt8.ofNat (n % 256).toNat, ?_⟩
  rw [IntKind.wrap_u8]
  simp
  omega
theorem four_back (u : World) (a b c d : UInt8) : (convert 111 9 (.slice (some ⟨u.heap.size, 0, none⟩) 4 4)).run Try.prog (u.alloc (.cells #[.int .u8 (a.toNat : Int), .int .u8 (b.toNat : Int), .int .u8 (c.toNat : Int), .int .u8 (d.toNat : Int)] 5)) = .ok (.string ⟨#[a, b, c, d]⟩) (u.alloc (.cells #[.int .u8 (a.toNat : Int), .int .u8 (b.toNat : Int), .int .u8 (c.toNat : Int), .int .u8 (d.toNat : Int)] 5)) := by
  have h := heap_alloc_new u (.cells #[.int .u8 (a.toNat : Int), .int .u8 (b.toNat : Int), .int .u8 (c.toNat : Int), .int .u8 (d.toNat : Int)] 5)
  refine run_convert_bytes_back _ 111 9 5 ⟨u.heap.size, 0, none⟩ 4 [a, b, c, d] Try.underlying111 Try.underlying5 Try.underlying9 fun j hj => ?_
  rw [Addr.add_mid, Nat.zero_add]
  simp only [World.cell?, h]
  match j, hj with
  | 0, _ => rfl
  | 1, _ => rfl
  | 2, _ => rfl
  | 3, _ => rfl
set_option maxRecDepth 100000 in
set_option maxHeartbeats 2000000 in
theorem nRising (i : Nat) (hi : (i : Int) ≤ 35184372087848) (u : World) : Calls Try.prog 77 #[.int .i64 (i : Int)] u fun e u' => ∃ v, e = .returned v ∧ ∃ s : ByteArray, v = .string s ∧ s.size = 4 ∧ Below u.heap.size u u' := by
  obtain ⟨q0, hq0⟩ : ∃ q : Nat, q = i / 65536 := ⟨_, rfl⟩
  obtain ⟨q1, hq1⟩ : ∃ q : Nat, q = q0 % 256 := ⟨_, rfl⟩
  obtain ⟨q2, hq2⟩ : ∃ q : Nat, q = i / 256 := ⟨_, rfl⟩
  obtain ⟨q3, hq3⟩ : ∃ q : Nat, q = i / 256 % 256 := ⟨_, rfl⟩
  obtain ⟨q4, hq4⟩ : ∃ q : Nat, q = i % 256 := ⟨_, rfl⟩
  have e1 : (i : Int).tdiv 65536 = (q0 : Int) := by rw [hq0]; simp [Int.tdiv]
  have b0 : (q0 : Int) ≤ 35184372087848 := by omega
  have e2 : (i : Int).tdiv 256 = (q2 : Int) := by rw [hq2]; simp [Int.tdiv]
  have e3 : (q2 : Int).tmod 256 = (q3 : Int) := by rw [hq3, hq2]; simp [Int.tmod]
  have e4 : (i : Int).tmod 256 = (q4 : Int) := by rw [hq4]; simp [Int.tmod]
  have b1 : (q1 : Int) ≤ 255 := by omega
  have b2 : (q3 : Int) ≤ 255 := by omega
  have b3 : (q4 : Int) ≤ 255 := by omega
  have b4 : (q2 : Int) ≤ 35184372087848 := by omega
  obtain ⟨a1, h1⟩ : ∃ a : UInt8, (q1 : Int) = (a.toNat : Int) := ⟨UInt8.ofNat q1, by simp; omega⟩
  obtain ⟨a2, h2⟩ : ∃ a : UInt8, (q3 : Int) = (a.toNat : Int) := ⟨UInt8.ofNat q3, by simp; omega⟩
  obtain ⟨a3, h3⟩ : ∃ a : UInt8, (q4 : Int) = (a.toNat : Int) := ⟨UInt8.ofNat q4, by simp; omega⟩
  have w1 : IntKind.u8.wrap (q0 : Int) = (q1 : Int) := by rw [IntKind.wrap_u8]; omega
  have w2 : IntKind.u8.wrap (q3 : Int) = (q3 : Int) := by rw [IntKind.wrap_u8]; omega
  have w3 : IntKind.u8.wrap (q4 : Int) = (q4 : Int) := by rw [IntKind.wrap_u8]; omega
  have hcv := four_back u 111 a1 a2 a3
  have e111 : ((111 : UInt8).toNat : Int) = 111 := rfl
  rw [← h1, ← h2, ← h3, e111] at hcv
  clear e111
  clear hq0 hq1 hq2 hq3 hq4 h1 h2 h3
  go_enter Try.func77, Try.ntmps77
  go_wp2
  go_ret
  exact ⟨_, rfl, _, rfl, rfl, (Below.refl _ _).alloc (Nat.le_refl _) _⟩
/-- is it a block of one of the lists -/
def Nv.blk (b : Nv) (x : Nat) : Prop := (∃ o, b.ca = some ⟨x, o, none⟩) ∨ (∃ o, b.ka = some ⟨x, o, none⟩) ∨ (∃ o, b.ga = some ⟨x, o, none⟩)
/-- all but these blocks lies as it lay -/
structure Upb (w w' : World) (b : Nv) : Prop where
  os : w'.os = w.os
  tape : w'.tape = w.tape
  output : w'.output = w.output
  size : w.heap.size ≤ w'.heap.size
  block : ∀ x, x < w.heap.size → ¬ b.blk x → w'.heap[x]? = w.heap[x]?
theorem Upb.refl (w : World) (b : Nv) : Upb w w b := ⟨rfl, rfl, rfl, Nat.le_refl _, fun _ _ _ => rfl⟩
theorem Upb.of_below {u w w' : World} {b : Nv} (h : Upb u w b) (hb : Below w.heap.size w w') : Upb u w' b :=
  ⟨hb.os.trans h.os, hb.tape.trans h.tape, hb.output.trans h.output, Nat.le_trans h.size hb.size, fun x hx hn => (hb.block x (Nat.lt_of_lt_of_le hx h.size)).trans (h.block x hx hn)⟩
theorem Upb.below {w w' : World} {b : Nv} {B : Nat} (h : Upb w w' b) (hb : ∀ x, b.blk x → B ≤ x) (hB : B ≤ w.heap.size) : Below B w w' :=
  ⟨h.os, h.tape, h.output, h.size, fun x hx => h.block x (by omega) (fun hn => by have := hb x hn; omega)⟩
theorem Upb.set {u w : World} {b : Nv} (h : Upb u w b) {g k : Nat} (hg : b.blk g) (v : Value) : Upb u (w.setCell ⟨g, k, none⟩ v) b := by
  refine ⟨h.os, h.tape, h.output, ?_, fun x hx hn => ?_⟩
  · have hs : (w.setCell ⟨g, k, none⟩ v).heap.size = w.heap.size := by simp
    rw [hs]; exact h.size
  · rw [Below.heap_setCell w ⟨g, k, none⟩ v x (fun e => hn (by show b.blk x; rw [show x = g from e]; exact hg))]
    exact h.block x hx hn
/-- while it is written over -/
structure Ov (u w : World) (N : Nat) (bx : Array Value) (B : Nat) (b : Nv) (cs : List Cl) (ks : List ByteArray) (gs : List Nat) : Prop where
  up : Upb u w b
  box : w.heap[N]? = some (.cells bx 26 (0, 0))
  own : Ow w B cs ks gs b
theorem Ov.below {u w w' : World} {N B : Nat} {bx : Array Value} {b : Nv} {cs : List Cl} {ks : List ByteArray} {gs : List Nat} (h : Ov u w N bx B b cs ks gs) (hb : Below w.heap.size w w') : Ov u w' N bx B b cs ks gs :=
  ⟨h.up.of_below hb, box_below h.box hb, own_keep h.own.c (fun g hg => hb.block g (h.own.c.lt g hg).2), own_keep h.own.k (fun g hg => hb.block g (h.own.k.lt g hg).2), own_keep h.own.g (fun g hg => hb.block g (h.own.g.lt g hg).2)⟩
theorem own_apart {w : World} {B e size : Nat} {v : Value} {n : Nat} {xs : List Value} {e' B' size' n' g : Nat} {v' : Value} {xs' : List Value} (h : w.ownsRow B e size v n xs) (h' : w.ownsRow B' e' size' v' n' xs') (hne : e ≠ e') (hg : v'.ownBlock = some g) (k : Nat) (x : Value) : (w.setCell ⟨g, k, none⟩ x).ownsRow B e size v n xs :=
  own_keep h fun g' hg' => Below.heap_setCell w ⟨g, k, none⟩ x g' (fun e => by
    rcases own_ne h h' hne with h1 | h1
    · rw [h1] at hg'; cases hg'
    · exact h1 (by rw [hg', hg, show g' = g from e]))
theorem flatC_set : ∀ (cs : List Cl) (k : Nat) (q p : ByteArray), ((flatC cs).set (k * 2) (.string q)).set (k * 2 + 1) (.string p) = flatC (cs.set k ⟨q, p⟩)
  | [], k, q, p => by simp [flatC]
  | c :: cs, 0, q, p => by simp [flatC, Cl.cs]
  | c :: cs, k + 1, q, p => by
    have ih := flatC_set cs k q p
    have e : flatC (c :: cs) = .string c.key :: .string c.val :: flatC cs := rfl
    rw [e, show (k + 1) * 2 = k * 2 + 1 + 1 by omega, List.set_cons_succ, List.set_cons_succ, List.set_cons_succ, List.set_cons_succ, ih]
    rfl
theorem flatK_set (ks : List ByteArray) (k : Nat) (q : ByteArray) : (flatK ks).set k (.string q) = flatK (ks.set k q) := by simp [flatK, List.map_set]
theorem flatG_set (gs : List Nat) (k q : Nat) : (flatG gs).set k (.int .u32 (q : Int)) = flatG (gs.set k q) := by simp [flatG, List.map_set]
theorem Ov.setC {u w : World} {N B : Nat} {bx : Array Value} {b : Nv} {cs : List Cl} {ks : List ByteArray} {gs : List Nat} (h : Ov u w N bx B b cs ks gs) {g : Nat} (hg : b.ca = some ⟨g, 0, none⟩) (k : Nat) (q p : ByteArray) : Ov u (w.setCells g (k * 2) [.string q, .string p]) N bx B b (cs.set k ⟨q, p⟩) ks gs := by
  have hblk : b.blk g := .inl ⟨0, hg⟩
  have ho : (Value.slice b.ca cs.length b.cc).ownBlock = some g := by rw [hg]; rfl
  have hng : N ≠ g := fun e => not_node h.own.c (by decide) h.box g ho e.symm
  show Ov u ((w.setCell ⟨g, k * 2, none⟩ (.string q)).setCell ⟨g, k * 2 + 1, none⟩ (.string p)) N bx B b (cs.set k ⟨q, p⟩) ks gs
  have s1 := h.own.c
  rw [hg] at s1
  have s2 := (s1.stored (k * 2) (.string q)).1
  have s3 := (s2.stored (k * 2 + 1) (.string p)).1
  rw [flatC_set] at s3
  have hc2 : (w.setCell ⟨g, k * 2, none⟩ (.string q)).ownsRow B 66 2 (.slice b.ca cs.length b.cc) cs.length ((flatC cs).set (k * 2) (.string q)) := by rw [hg]; exact s2
  refine ⟨(h.up.set hblk _).set hblk _, ?_, ?_, ?_, ?_⟩
  · rw [Below.heap_setCell _ ⟨g, k * 2 + 1, none⟩ _ N hng, Below.heap_setCell _ ⟨g, k * 2, none⟩ _ N hng]; exact h.box
  · rw [List.length_set, hg]; exact s3
  · exact own_apart (own_apart h.own.k h.own.c (by decide) ho _ _) hc2 (by decide) ho _ _
  · exact own_apart (own_apart h.own.g h.own.c (by decide) ho _ _) hc2 (by decide) ho _ _
theorem Ov.setK {u w : World} {N B : Nat} {bx : Array Value} {b : Nv} {cs : List Cl} {ks : List ByteArray} {gs : List Nat} (h : Ov u w N bx B b cs ks gs) {g : Nat} (hg : b.ka = some ⟨g, 0, none⟩) (k : Nat) (q : ByteArray) : Ov u (w.setCell ⟨g, k, none⟩ (.string q)) N bx B b cs (ks.set k q) gs := by
  have hblk : b.blk g := .inr (.inl ⟨0, hg⟩)
  have ho : (Value.slice b.ka ks.length b.kc).ownBlock = some g := by rw [hg]; rfl
  have hng : N ≠ g := fun e => not_node h.own.k (by decide) h.box g ho e.symm
  have s1 := h.own.k
  rw [hg] at s1
  have s2 := (s1.stored k (.string q)).1
  rw [flatK_set] at s2
  refine ⟨h.up.set hblk _, ?_, ?_, ?_, ?_⟩
  · rw [Below.heap_setCell _ ⟨g, k, none⟩ _ N hng]; exact h.box
  · exact own_apart h.own.c h.own.k (by decide) ho _ _
  · rw [List.length_set, hg]; exact s2
  · exact own_apart h.own.g h.own.k (by decide) ho _ _
theorem Ov.setG {u w : World} {N B : Nat} {bx : Array Value} {b : Nv} {cs : List Cl} {ks : List ByteArray} {gs : List Nat} (h : Ov u w N bx B b cs ks gs) {g : Nat} (hg : b.ga = some ⟨g, 0, none⟩) (k q : Nat) : Ov u (w.setCell ⟨g, k, none⟩ (.int .u32 (q : Int))) N bx B b cs ks (gs.set k q) := by
  have hblk : b.blk g := .inr (.inr ⟨0, hg⟩)
  have ho : (Value.slice b.ga gs.length b.gc).ownBlock = some g := by rw [hg]; rfl
  have hng : N ≠ g := fun e => not_node h.own.g (by decide) h.box g ho e.symm
  have s1 := h.own.g
  rw [hg] at s1
  have s2 := (s1.stored k (.int .u32 (q : Int))).1
  rw [flatG_set] at s2
  refine ⟨h.up.set hblk _, ?_, ?_, ?_, ?_⟩
  · rw [Below.heap_setCell _ ⟨g, k, none⟩ _ N hng]; exact h.box
  · exact own_apart h.own.c h.own.g (by decide) ho _ _
  · exact own_apart h.own.k h.own.g (by decide) ho _ _
  · rw [List.length_set, hg]; exact s2
end Go.Proofs.Ytppmpomfihalfaa
