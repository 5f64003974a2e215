/- What is wanted of the digest here. -/
import Derived.Test.YtopabadnbelegaaRows
import Derived.WalkKit
import Derived.WalkLawsBesides
import Derived.ProofKit
import Derived.OpenShut
import Derived.Handy
import Derived.Laws.BitsAllLaws
import Derived.Deep.QuietTactic
import Derived.Deep.RegionHeld3
import Derived.Deep.MidRow
import Derived.Deep.Heap
import Derived.Laws.Rows
import Derived.Laws.Tables
import Derived.Deep.RegionWith
import Derived.Lib.ConvBytes
import Derived.Lib.Bytealg
import Derived.Deep.RegionLaw
import Derived.Deep.OwnRows
import Derived.Laws.CopyOwn
import Derived.Below
namespace Go.Proofs.Ytopabadnbelegaa.D
section
open Go.RowKit
theorem hide {p : Prop} (h : p) : Hid p := h
theorem unhide {p : Prop} (h : Hid p) : p := h
namespace Sha
def rot (x n : Nat) : Nat := x / 2 ^ n ||| x * 2 ^ (32 - n) % 4294967296
def s0 (x : Nat) : Nat := rot x 7 ^^^ rot x 18 ^^^ x / 8
def s1 (x : Nat) : Nat := rot x 17 ^^^ rot x 19 ^^^ x / 1024
def S0 (a : Nat) : Nat := rot a 2 ^^^ rot a 13 ^^^ rot a 22
def S1 (e : Nat) : Nat := rot e 6 ^^^ rot e 11 ^^^ rot e 25
def ch (e f g : Nat) : Nat := (e &&& f) ^^^ ((4294967295 - e) &&& g)
def maj (a b c : Nat) : Nat := (a &&& b) ^^^ (a &&& c) ^^^ (b &&& c)
/-- the word of four bytes -/
def be (b : Nat → Nat) (i : Nat) : Nat := b (4 * i) * 16777216 + b (4 * i + 1) * 65536 + b (4 * i + 2) * 256 + b (4 * i + 3)
/-- the next word of a block; those ahead of it, the last one first -/
def nextW (b : Nat → Nat) (l : List Nat) (i : Nat) : Nat :=
  if i < 16 then be b i else (l.getD 15 0 + s0 (l.getD 14 0) + l.getD 6 0 + s1 (l.getD 1 0)) % 4294967296
def Wl (b : Nat → Nat) : Nat → List Nat
  | 0 => []
  | n + 1 => nextW b (Wl b n) n :: Wl b n
def wd (b : Nat → Nat) (i : Nat) : Nat := nextW b (Wl b i) i
structure St where
  a : Nat
  b : Nat
  c : Nat
  d : Nat
  e : Nat
  f : Nat
  g : Nat
  h : Nat
deriving DecidableEq
def K : List Nat := [0x428a2f98, 0x71374491, 0xb5c0fbcf, 0xe9b5dba5, 0x3956c25b, 0x59f111f1, 0x923f82a4, 0xab1c5ed5,
  0xd807aa98, 0x12835b01, 0x243185be, 0x550c7dc3, 0x72be5d74, 0x80deb1fe, 0x9bdc06a7, 0xc19bf174,
  0xe49b69c1, 0xefbe4786, 0x0fc19dc6, 0x240ca1cc, 0x2de92c6f, 0x4a7484aa, 0x5cb0a9dc, 0x76f988da,
  0x983e5152, 0xa831c66d, 0xb00327c8, 0xbf597fc7, 0xc6e00bf3, 0xd5a79147, 0x06ca6351, 0x14292967,
  0x27b70a85, 0x2e1b2138, 0x4d2c6dfc, 0x53380d13, 0x650a7354, 0x766a0abb, 0x81c2c92e, 0x92722c85,
  0xa2bfe8a1, 0xa81a664b, 0xc24b8b70, 0xc76c51a3, 0xd192e819, 0xd6990624, 0xf40e3585, 0x106aa070,
  0x19a4c116, 0x1e376c08, 0x2748774c, 0x34b0bcb5, 0x391c0cb3, 0x4ed8aa4a, 0x5b9cca4f, 0x682e6ff3,
  0x748f82ee, 0x78a5636f, 0x84c87814, 0x8cc70208, 0x90befffa, 0xa4506ceb, 0xbef9a3f7, 0xc67178f2]
def t1 (s : St) (k w : Nat) : Nat := (s.h + S1 s.e + ch s.e s.f s.g + k + w) % 4294967296
def t2 (s : St) : Nat := (S0 s.a + maj s.a s.b s.c) % 4294967296
def rstep (s : St) (k w : Nat) : St := ⟨(t1 s k w + t2 s) % 4294967296, s.a, s.b, s.c, (s.d + t1 s k w) % 4294967296, s.e, s.f, s.g⟩
def rnd (b : Nat → Nat) (s : St) : Nat → St
  | 0 => s
  | n + 1 => rstep (rnd b s n) (K.getD n 0) (wd b n)
def add (s t : St) : St := ⟨(s.a + t.a) % 4294967296, (s.b + t.b) % 4294967296, (s.c + t.c) % 4294967296, (s.d + t.d) % 4294967296, (s.e + t.e) % 4294967296, (s.f + t.f) % 4294967296, (s.g + t.g) % 4294967296, (s.h + t.h) % 4294967296⟩
/-- what a block makes of a state -/
def mix (s : St) (b : List UInt8) : St := add s (rnd (fun i => (b.getD i 0).toNat) s 64)
def start : St := ⟨0x6a09e667, 0xbb67ae85, 0x3c6ef372, 0xa54ff53a, 0x510e527f, 0x9b05688c, 0x1f83d9ab, 0x5be0cd19⟩
def blocks : Nat → St → List UInt8 → St
  | 0, s, _ => s
  | n + 1, s, l => blocks n (mix s (l.take 64)) (l.drop 64)
def be8 (v : Nat) : List UInt8 := [UInt8.ofNat (v / 72057594037927936), UInt8.ofNat (v / 281474976710656), UInt8.ofNat (v / 1099511627776), UInt8.ofNat (v / 4294967296), UInt8.ofNat (v / 16777216), UInt8.ofNat (v / 65536), UInt8.ofNat (v / 256), UInt8.ofNat v]
def fill (n : Nat) : List UInt8 := 128 :: (List.replicate ((119 - n % 64) % 64) 0 ++ be8 (8 * n % 18446744073709551616))
def be4 (v : Nat) : List UInt8 := [UInt8.ofNat (v / 16777216), UInt8.ofNat (v / 65536), UInt8.ofNat (v / 256), UInt8.ofNat v]
def told (s : St) : List UInt8 := be4 s.a ++ be4 s.b ++ be4 s.c ++ be4 s.d ++ be4 s.e ++ be4 s.f ++ be4 s.g ++ be4 s.h
def absorb (l : List UInt8) : St := blocks (l.length / 64) start l
def of (l : List UInt8) : List UInt8 := told (absorb (l ++ fill l.length))
end Sha
section
namespace Sha
/-- what fills no block yet -/
def tail (l : List UInt8) : List UInt8 := l.drop (64 * (l.length / 64))
theorem tail_length (l : List UInt8) : (tail l).length = l.length % 64 := by
  rw [tail, List.length_drop]; omega
theorem tail_nil : tail [] = [] := rfl
theorem absorb_nil : absorb [] = start := rfl
theorem blocks_add (n m : Nat) (s : St) (l : List UInt8) : blocks (n + m) s l = blocks m (blocks n s l) (l.drop (64 * n)) := by
  induction n generalizing s l with
  | zero => simp [blocks]
  | succ n ih =>
    rw [show n + 1 + m = (n + m) + 1 from by omega]
    show blocks (n + m) (mix s (l.take 64)) (l.drop 64) = blocks m (blocks n (mix s (l.take 64)) (l.drop 64)) (l.drop (64 * (n + 1)))
    rw [ih, List.drop_drop]
    congr 1
    congr 1
    omega
theorem blocks_front (n : Nat) (s : St) (l x : List UInt8) (h : 64 * n ≤ l.length) : blocks n s (l ++ x) = blocks n s l := by
  induction n generalizing s l with
  | zero => rfl
  | succ n ih =>
    show blocks n (mix s ((l ++ x).take 64)) ((l ++ x).drop 64) = blocks n (mix s (l.take 64)) (l.drop 64)
    rw [List.take_append_of_le_length (by omega), List.drop_append_of_le_length (by omega), ih _ _ (by rw [List.length_drop]; omega)]
theorem blocks_succ (n : Nat) (s : St) (l : List UInt8) : blocks (n + 1) s l = mix (blocks n s l) ((l.drop (64 * n)).take 64) := by
  rw [blocks_add]; rfl
theorem absorb_append (l p : List UInt8) : absorb (l ++ p) = blocks ((l.length % 64 + p.length) / 64) (absorb l) (tail l ++ p) := by
  unfold absorb
  rw [List.length_append, show (l.length + p.length) / 64 = l.length / 64 + (l.length % 64 + p.length) / 64 from by omega, blocks_add]
  rw [blocks_front _ _ _ _ (by omega), List.drop_append_of_le_length (by omega)]
  rfl
theorem tail_append (l p : List UInt8) : tail (l ++ p) = (tail l ++ p).drop (64 * ((l.length % 64 + p.length) / 64)) := by
  unfold tail
  rw [← List.drop_append_of_le_length (by omega), List.drop_drop, List.length_append]
  congr 1
  omega
/-- too few for a block -/
theorem absorb_few (l p : List UInt8) (h : l.length % 64 + p.length < 64) : absorb (l ++ p) = absorb l ∧ tail (l ++ p) = tail l ++ p := by
  rw [absorb_append, tail_append, show (l.length % 64 + p.length) / 64 = 0 from by omega]
  exact ⟨rfl, by simp⟩
/-- a block, and more of them -/
theorem absorb_more (l p : List UInt8) (h : 64 ≤ l.length % 64 + p.length) :
    absorb (l ++ p) = blocks ((p.drop (64 - l.length % 64)).length / 64) (mix (absorb l) (tail l ++ p.take (64 - l.length % 64))) (p.drop (64 - l.length % 64)) ∧
    tail (l ++ p) = tail (p.drop (64 - l.length % 64)) := by
  have hl := tail_length l
  have e1 : (tail l ++ p).take 64 = tail l ++ p.take (64 - l.length % 64) := by
    rw [List.take_append, hl, List.take_of_length_le (by omega)]
  have e2 : (tail l ++ p).drop 64 = p.drop (64 - l.length % 64) := by
    rw [List.drop_append, hl, List.drop_of_length_le (by omega), List.nil_append]
  have e3 : (l.length % 64 + p.length) / 64 = (p.drop (64 - l.length % 64)).length / 64 + 1 := by
    rw [List.length_drop]; omega
  constructor
  · rw [absorb_append, e3]
    show blocks _ (mix (absorb l) ((tail l ++ p).take 64)) ((tail l ++ p).drop 64) = _
    rw [e1, e2]
  · rw [tail_append, e3, show 64 * ((p.drop (64 - l.length % 64)).length / 64 + 1) = 64 + 64 * ((p.drop (64 - l.length % 64)).length / 64) from by omega, ← List.drop_drop, e2]
    rfl
theorem fill_len (n : Nat) : (fill n).length = (119 - n % 64) % 64 + 9 := by
  simp [fill, be8]
theorem whole_mod (l : List UInt8) : (l ++ fill l.length).length % 64 = 0 := by
  rw [List.length_append, fill_len]; omega
theorem told_length (s : St) : (told s).length = 32 := rfl
theorem of_length (l : List UInt8) : (of l).length = 32 := rfl
end Sha
end

end
section
open Go.RowKit
theorem o32 (a b : Nat) (ha : a < 4294967296) (hb : b < 4294967296) : bits .or .u32 (a : Int) (b : Int) = ((a ||| b : Nat) : Int) := u32_or_nat a b ha hb
theorem x32 (a b : Nat) (ha : a < 4294967296) (hb : b < 4294967296) : bits .xor .u32 (a : Int) (b : Int) = ((a ^^^ b : Nat) : Int) := u32_xor_nat a b ha hb
theorem n32 (a b : Nat) (ha : a < 4294967296) (hb : b < 4294967296) : bits .and .u32 (a : Int) (b : Int) = ((a &&& b : Nat) : Int) := u32_and_nat a b ha hb
theorem not32 (a : Nat) (ha : a < 4294967296) : bits .xor .u32 IntKind.u32.max (a : Int) = ((4294967295 - a : Nat) : Int) := by
  show IntKind.u32.wrap ((BitVec.ofInt 32 4294967295 ^^^ BitVec.ofInt 32 (a : Int)).toNat : Int) = _
  have h2 : BitVec.ofInt 32 4294967295 = BitVec.allOnes 32 := by decide
  rw [h2, BitVec.allOnes_xor, BitVec.toNat_not, ofInt_u32 a (by omega), IntKind.wrap_u32]
  omega
theorem xor_lt {a b : Nat} (ha : a < 4294967296) (hb : b < 4294967296) : a ^^^ b < 4294967296 := Nat.xor_lt_two_pow (n := 32) ha hb
theorem and_lt {a b : Nat} (ha : a < 4294967296) : a &&& b < 4294967296 := Nat.lt_of_le_of_lt Nat.and_le_left ha
theorem Sha.rot_lt (x n : Nat) (hx : x < 4294967296) : Sha.rot x n < 4294967296 :=
  Nat.or_lt_two_pow (n := 32) (Nat.lt_of_le_of_lt (Nat.div_le_self _ _) hx) (Nat.mod_lt _ (by decide))
theorem div_int (x n : Nat) : ((x : Int) / 2 ^ n) = ((x / 2 ^ n : Nat) : Int) := by simp
theorem rot_int (x n : Nat) (hx : x < 4294967296) : bits .or .u32 ((x : Int) / 2 ^ n) ((x : Int) * 2 ^ (32 - n) % 4294967296) = ((Sha.rot x n : Nat) : Int) := by
  have e2 : ((x : Int) * 2 ^ (32 - n) % 4294967296) = ((x * 2 ^ (32 - n) % 4294967296 : Nat) : Int) := by simp
  rw [div_int, e2, o32 _ _ (Nat.lt_of_le_of_lt (Nat.div_le_self _ _) hx) (Nat.mod_lt _ (by decide))]
  rfl
theorem dTurned (x n : Nat) (w : World) (hx : x < 4294967296) (hn : n < 32) (hn0 : 0 < n) :
    Calls Try.prog 92 #[.int .u32 x, .int .u64 n] w fun e w' => e = .returned (.int .u32 (Sha.rot x n : Nat)) ∧ w' = w := by
  have hr := rot_int x n hx
  go_enter Try.func92, Try.ntmps92
  go_wp2
  go_ret
  exact ⟨rfl, rfl⟩
/-- a word, turned twice and moved -/
def lo (x a b c : Nat) : Nat := x / 2 ^ c ^^^ (Sha.rot x a ^^^ Sha.rot x b)
theorem lo_lt (x a b c : Nat) (hx : x < 4294967296) : lo x a b c < 4294967296 := xor_lt (Nat.lt_of_le_of_lt (Nat.div_le_self _ _) hx) (xor_lt (Sha.rot_lt _ _ hx) (Sha.rot_lt _ _ hx))
theorem lo_s0 (x : Nat) : lo x 7 18 3 = Sha.s0 x := by unfold lo Sha.s0; rw [Nat.xor_comm]
theorem lo_s1 (x : Nat) : lo x 17 19 10 = Sha.s1 x := by unfold lo Sha.s1; rw [Nat.xor_comm]
theorem dLaidOver (x a b c : Nat) (w : World) (hx : x < 4294967296) (ha : a < 32) (ha0 : 0 < a) (hb : b < 32) (hb0 : 0 < b) (hc : c < 32) :
    Calls Try.prog 93 #[.int .u32 x, .int .u64 a, .int .u64 b, .int .u64 c] w fun e w' => e = .returned (.int .u32 (lo x a b c : Nat)) ∧ w' = w := by
  have h1 := dTurned x a w hx ha ha0
  have h2 := dTurned x b w hx hb hb0
  have e1 := x32 (Sha.rot x a) (Sha.rot x b) (Sha.rot_lt _ _ hx) (Sha.rot_lt _ _ hx)
  have e2 := x32 (x / 2 ^ c) (Sha.rot x a ^^^ Sha.rot x b) (Nat.lt_of_le_of_lt (Nat.div_le_self _ _) hx) (xor_lt (Sha.rot_lt _ _ hx) (Sha.rot_lt _ _ hx))
  rw [← div_int] at e2
  have H1 := hide h1
  have H2 := hide h2
  clear h1 h2
  go_enter Try.func93, Try.ntmps93
  go_wp2_with fail
  refine (unhide H1).mono ?_
  rintro e w1 ⟨rfl, rfl⟩
  go_wp2_with fail
  refine (unhide H2).mono ?_
  rintro e w1 ⟨rfl, rfl⟩
  go_wp2
  go_ret
  exact ⟨rfl, rfl⟩
end
section
open Go.RowKit
theorem infoW : (Try.prog.info? 110).map (·.size) = some 64 := by kernel_rfl
theorem info8 : (Try.prog.info? 90).map (·.size) = some 8 := by kernel_rfl
theorem infoB : (Try.prog.info? 127).map (·.size) = some 64 := by kernel_rfl
theorem infoS : (Try.prog.info? 71).map (·.size) = some 32 := by kernel_rfl
/-- so many words -/
structure Is32 (cs : Array Value) (n : Nat) (f : Nat → Nat) : Prop where
  size : cs.size = n
  at' : ∀ i, i < n → cs[i]? = some (.int .u32 (f i : Nat))
theorem Is32.one {cs : Array Value} {n : Nat} {f : Nat → Nat} (h : Is32 cs n f) : cs.all (·.oneCell') = true := by
  rw [Array.all_eq_true]
  intro i hi
  have := h.at' i (by have := h.size; omega)
  rw [Array.getElem?_eq_getElem hi] at this
  rw [Option.some.inj this]; rfl
def KV : Array Value := (Sha.K.map fun k => .int .u32 (k : Nat)).toArray
def Z64 : Array Value := (List.replicate 64 (.int .u32 0)).toArray
theorem KV_is : Is32 KV 64 (fun i => Sha.K.getD i 0) := by
  refine ⟨rfl, fun i hi => ?_⟩
  have hl : i < Sha.K.length := hi
  simp [KV, hl]
theorem K_lt (i : Nat) : Sha.K.getD i 0 < 4294967296 := by
  have h : ∀ i : Fin 64, Sha.K.getD i.1 0 < 4294967296 := by decide +kernel
  by_cases hi : i < 64
  · exact h ⟨i, hi⟩
  · rw [List.getD, List.getElem?_eq_none (by show 64 ≤ i; omega)]; decide
theorem heapCell_same {w : World} {g : Nat} {cs : Array Value} {t : TypeId} {fr : Nat × Nat} (h : w.heap[g]? = some (.cells cs t fr)) (k : Nat) (v : Value) : (w.setCell ⟨g, k, none⟩ v).heap[g]? = some (.cells (cs.setIfInBounds k v) t fr) := by
  simp [World.setCell, Array.getElem?_modify, h]
theorem heapRow_same {w : World} {g : Nat} {cs : Array Value} {t : TypeId} {fr : Nat × Nat} (h : w.heap[g]? = some (.cells cs t fr)) (cs' : Array Value) : (w.setRow g cs').heap[g]? = some (.cells cs' t fr) := by
  simp [World.setRow, Array.getElem?_modify, h]
theorem heapRow_other (w : World) (g k : Nat) (cs' : Array Value) (h : k ≠ g) : (w.setRow g cs').heap[k]? = w.heap[k]? := by
  simp only [World.setRow, Array.getElem?_modify]
  rw [if_neg (by omega)]
theorem belowRow {B : Nat} {a w : World} (h : Below B a w) {g : Nat} (hg : B ≤ g) (cs' : Array Value) : Below B a (w.setRow g cs') :=
  ⟨h.os, h.tape, h.output, by simpa [World.setRow] using h.size, fun k hk => (heapRow_other w g k cs' (by omega)).trans (h.block k hk)⟩
theorem belowCell {B : Nat} {a w : World} (h : Below B a w) {p : Addr} (hg : B ≤ p.block) (v : Value) : Below B a (w.setCell p v) :=
  ⟨h.os, h.tape, h.output, by simpa [World.setCell] using h.size, fun k hk => (Deep.blk_setCell_other w p v k (by omega)).trans (h.block k hk)⟩
theorem belowDrewN {B : Nat} {a w : World} (h : Below B a w) (n : Nat) : Below B a (w.drewN n) := ⟨h.os, h.tape, h.output, h.size, h.block⟩
set_option maxRecDepth 100000 in
set_option maxHeartbeats 800000 in
theorem dCubes (w : World) : Calls Try.prog 89 #[] w fun e w' => e = .returned (.agg KV) ∧ Below w.heap.size w w' := by
  have hu := Try.underlying110
  go_enter Try.func89, Try.ntmps89
  go_wp2_with (first | (refine wpList_build rfl 110 _ rfl (by kernel_rfl) ?_) | (refine wpList_store_row rfl 110 (.tmp 0) (.tmp 1) rfl w.heap.size KV rfl (by kernel_rfl) 110 Z64 (by first | exact heap_alloc_new _ _ | kernel_rfl) infoW rfl KV_is.one ?_))
  refine bodyPost_ret (results_cell_row rfl _ _ w.heap.size 110 KV (0, 0) _ rfl (heapRow_same (heap_alloc_new _ _) KV) hu rfl infoW) rfl ?_
  exact ⟨rfl, belowRow ((Below.refl _ _).alloc (Nat.le_refl _) _) (Nat.le_refl _) _⟩
end
section
open Go.RowKit
/-- a state as cells -/
def St8 (s : Sha.St) : Array Value := #[.int .u32 (s.a : Nat), .int .u32 (s.b : Nat), .int .u32 (s.c : Nat), .int .u32 (s.d : Nat), .int .u32 (s.e : Nat), .int .u32 (s.f : Nat), .int .u32 (s.g : Nat), .int .u32 (s.h : Nat)]
theorem St8_one (s : Sha.St) : (St8 s).all (·.oneCell') = true := by simp [St8, Value.oneCell']
theorem St8_start : St8 Sha.start = #[.int .u32 1779033703, .int .u32 3144134277, .int .u32 1013904242, .int .u32 2773480762, .int .u32 1359893119, .int .u32 2600822924, .int .u32 528734635, .int .u32 1541459225] := by kernel_rfl
theorem dStart (w : World) : Calls Try.prog 84 #[] w fun e w' => e = .returned (.agg (St8 Sha.start)) ∧ Below w.heap.size w w' := by
  rw [St8_start]
  have hu := Try.underlying90
  go_enter Try.func84, Try.ntmps84
  go_wp2
  refine bodyPost_ret (results_cell_row rfl _ _ w.heap.size 90 _ (0, 0) _ rfl (heap_alloc_new _ _) hu rfl info8) rfl ?_
  exact ⟨rfl, ((Below.refl _ _).alloc (Nat.le_refl _) _)⟩
/-- words that lie in a row, the first k of them known -/
structure Rw (f : Nat → Nat) (w wr : World) (r : Nat) (k : Nat) (ts : Array Value) : Prop where
  size : ts.size = 64
  at' : ∀ j, j < k → ts[j]? = some (.int .u32 (f j : Nat))
  row : wr.heap[r]? = some (.cells ts 110 (0, 0))
  lt : w.heap.size ≤ r
  bel : Below w.heap.size w wr
theorem Rw.next {f : Nat → Nat} {w wr : World} {r k : Nat} {ts : Array Value} (h : Rw f w wr r k ts) (v : Value) (hv : v = .int .u32 (f k : Nat)) (hk : k < 64) (n : Nat) :
    Rw f w ((wr.setCell ⟨r, k, none⟩ v).drewN n) r (k + 1) (ts.setIfInBounds k v) := by
  subst hv
  refine ⟨by simpa using h.size, ?_, heapCell_same h.row _ _, h.lt, belowDrewN (belowCell h.bel h.lt _) _⟩
  intro j hj
  rw [Array.getElem?_setIfInBounds]
  by_cases hjk : k = j
  · subst hjk; rw [if_pos rfl, if_pos (by rw [h.size]; exact hk)]
  · rw [if_neg hjk]; exact h.at' j (by omega)
theorem Rw.cell {f : Nat → Nat} {w wr : World} {r k : Nat} {ts : Array Value} (h : Rw f w wr r k ts) {j : Nat} (hj : j < k) : wr.cell? ⟨r, j, none⟩ = some (.int .u32 (f j : Nat)) := by
  simp [World.cell?, h.row, h.at' j hj]
theorem Rw.cell' {f : Nat → Nat} {w wr : World} {r k : Nat} {ts : Array Value} (h : Rw f w wr r k ts) {j : Nat} (hj : j < 64) : ∃ v, wr.cell? ⟨r, j, none⟩ = some v := by
  have : j < ts.size := by rw [h.size]; exact hj
  exact ⟨ts[j], by simp [World.cell?, h.row, this]⟩
theorem Rw.frozen {f : Nat → Nat} {w wr : World} {r k : Nat} {ts : Array Value} (h : Rw f w wr r k ts) (j : Nat) : wr.frozen? ⟨r, j, none⟩ = false := by
  simp [World.frozen?, h.row]
theorem Rw.is {f : Nat → Nat} {w wr : World} {r : Nat} {ts : Array Value} (h : Rw f w wr r 64 ts) : Is32 ts 64 f := ⟨h.size, h.at'⟩
theorem Sha.s0_lt {x : Nat} (hx : x < 4294967296) : Sha.s0 x < 4294967296 := by rw [← lo_s0]; exact lo_lt _ _ _ _ hx
theorem Sha.s1_lt {x : Nat} (hx : x < 4294967296) : Sha.s1 x < 4294967296 := by rw [← lo_s1]; exact lo_lt _ _ _ _ hx
theorem Sha.Wl_get (b : Nat → Nat) (n j : Nat) (hj : j < n) : (Sha.Wl b n).getD j 0 = Sha.wd b (n - 1 - j) := by
  induction n generalizing j with
  | zero => omega
  | succ n ih =>
    rw [Sha.Wl]
    cases j with
    | zero => simp [Sha.wd]
    | succ j =>
      rw [List.getD_cons_succ, ih j (by omega)]
      congr 1; omega
theorem Sha.wd_first (b : Nat → Nat) (i : Nat) (hi : i < 16) : Sha.wd b i = Sha.be b i := by unfold Sha.wd Sha.nextW; rw [if_pos hi]
theorem Sha.wd_next (b : Nat → Nat) (i : Nat) (hi : 16 ≤ i) : Sha.wd b i = (Sha.wd b (i - 16) + Sha.s0 (Sha.wd b (i - 15)) + Sha.wd b (i - 7) + Sha.s1 (Sha.wd b (i - 2))) % 4294967296 := by
  rw [Sha.wd, Sha.nextW, if_neg (by omega), Sha.Wl_get b i 15 (by omega), Sha.Wl_get b i 14 (by omega), Sha.Wl_get b i 6 (by omega), Sha.Wl_get b i 1 (by omega)]
  rw [show i - 1 - 15 = i - 16 from by omega, show i - 1 - 14 = i - 15 from by omega, show i - 1 - 6 = i - 7 from by omega, show i - 1 - 1 = i - 2 from by omega]
theorem Sha.wd_lt (b : Nat → Nat) (hb : ∀ j, b j < 256) (i : Nat) : Sha.wd b i < 4294967296 := by
  by_cases hi : i < 16
  · rw [Sha.wd_first b i hi, Sha.be]
    have h0 := hb (4 * i); have h1 := hb (4 * i + 1); have h2 := hb (4 * i + 2); have h3 := hb (4 * i + 3)
    omega
  · rw [Sha.wd_next b i (by omega)]; exact Nat.mod_lt _ (by decide)
end
section
open Go.RowKit
/-- the word j behind i bytes -/
def pw (b : Nat → Nat) : Nat → Nat → Nat
  | 0, _ => 0
  | i + 1, j => if j = i / 4 then (pw b i j * 256 % 4294967296) ||| b i else pw b i j
theorem pw_zero (b : Nat → Nat) (j i : Nat) (h : i ≤ 4 * j) : pw b i j = 0 := by
  induction i with
  | zero => rfl
  | succ i ih => rw [pw, if_neg (by omega), ih (by omega)]
theorem pw_stay (b : Nat → Nat) (j i : Nat) : pw b (4 * j + 4 + i) j = pw b (4 * j + 4) j := by
  induction i with
  | zero => rfl
  | succ i ih => rw [← Nat.add_assoc, pw, if_neg (by omega), ih]
theorem or_byte (x y : Nat) (hy : y < 256) : (x * 256 % 4294967296) ||| y = x % 16777216 * 256 + y := by
  have e : x * 256 % 4294967296 = 2 ^ 8 * (x % 16777216) := by omega
  rw [e, ← Nat.two_pow_add_eq_or_of_lt (by omega)]
  omega
theorem pw_be (b : Nat → Nat) (hb : ∀ j, b j < 256) (j : Nat) (hj : j < 16) : pw b 64 j = Sha.be b j := by
  obtain ⟨d, hd⟩ : ∃ d, 64 = 4 * j + 4 + d := ⟨60 - 4 * j, by omega⟩
  rw [hd, pw_stay, pw, if_pos (by omega), pw, if_pos (by omega), pw, if_pos (by omega), pw, if_pos (by omega), pw_zero b j _ (Nat.le_refl _)]
  have h0 := hb (4 * j); have h1 := hb (4 * j + 1); have h2 := hb (4 * j + 2); have h3 := hb (4 * j + 3)
  rw [or_byte _ _ h3, or_byte _ _ h2, or_byte _ _ h1, or_byte _ _ h0]
  show _ = b (4 * j) * 16777216 + b (4 * j + 1) * 65536 + b (4 * j + 2) * 256 + b (4 * j + 3)
  omega
theorem pw_lt (b : Nat → Nat) (hb : ∀ j, b j < 256) (i j : Nat) : pw b i j < 4294967296 := by
  induction i with
  | zero => exact Nat.zero_lt_succ _
  | succ i ih =>
    rw [pw]
    split
    · exact Nat.or_lt_two_pow (n := 32) (Nat.mod_lt _ (by decide)) (Nat.lt_of_lt_of_le (hb i) (by decide))
    · exact ih
/-- so many bytes -/
structure Is8 (cs : Array Value) (n : Nat) (f : Nat → Nat) : Prop where
  size : cs.size = n
  at' : ∀ i, i < n → cs[i]? = some (.int .u8 (f i : Nat))
theorem Is8.one {cs : Array Value} {n : Nat} {f : Nat → Nat} (h : Is8 cs n f) : cs.all (·.oneCell') = true := by
  rw [Array.all_eq_true]
  intro i hi
  have := h.at' i (by have := h.size; omega)
  rw [Array.getElem?_eq_getElem hi] at this
  rw [Option.some.inj this]; rfl
theorem Rw.upd {f f' : Nat → Nat} {w wr : World} {r k : Nat} {ts : Array Value} (h : Rw f w wr r 64 ts) (v : Value) (hv : v = .int .u32 (f' k : Nat)) (hk : k < 64) (hf : ∀ j, j ≠ k → f' j = f j) :
    Rw f' w (wr.setCell ⟨r, k, none⟩ v) r 64 (ts.setIfInBounds k v) := by
  subst hv
  refine ⟨by simpa using h.size, ?_, heapCell_same h.row _ _, h.lt, belowCell h.bel h.lt _⟩
  intro j hj
  rw [Array.getElem?_setIfInBounds]
  by_cases hjk : k = j
  · subst hjk; rw [if_pos rfl, if_pos (by rw [h.size]; exact hk)]
  · rw [if_neg hjk, hf j (fun e => hjk e.symm)]; exact h.at' j hj
theorem Rw.less {f f' : Nat → Nat} {w wr : World} {r k k' : Nat} {ts : Array Value} (h : Rw f w wr r k ts) (hk : k' ≤ k) (hf : ∀ j, j < k' → f' j = f j) : Rw f' w wr r k' ts :=
  ⟨h.size, fun j hj => by rw [hf j hj]; exact h.at' j (by omega), h.row, h.lt, h.bel⟩
theorem Rw.set {f : Nat → Nat} {w wr : World} {r k : Nat} {ts : Array Value} (h : Rw f w wr r k ts) (v : Value) (n : Nat) :
    Rw f w ((wr.setCell ⟨r, k, none⟩ v).drewN n) r k (ts.setIfInBounds k v) := by
  refine ⟨by simpa using h.size, ?_, heapCell_same h.row _ _, h.lt, belowDrewN (belowCell h.bel h.lt _) _⟩
  intro j hj
  rw [Array.getElem?_setIfInBounds, if_neg (by omega)]
  exact h.at' j hj
theorem Rw.set0 {f : Nat → Nat} {w wr : World} {r k : Nat} {ts : Array Value} (h : Rw f w wr r k ts) (v : Value) :
    Rw f w (wr.setCell ⟨r, k, none⟩ v) r k (ts.setIfInBounds k v) := by
  refine ⟨by simpa using h.size, ?_, heapCell_same h.row _ _, h.lt, belowCell h.bel h.lt _⟩
  intro j hj
  rw [Array.getElem?_setIfInBounds, if_neg (by omega)]
  exact h.at' j hj
theorem Rw.drew {f : Nat → Nat} {w wr : World} {r k : Nat} {ts : Array Value} (h : Rw f w wr r k ts) : Rw f w wr.drew r k ts := ⟨h.size, h.at', h.row, h.lt, belowDrewN h.bel 1⟩
theorem Rw.next0 {f : Nat → Nat} {w wr : World} {r k : Nat} {ts : Array Value} (h : Rw f w wr r k ts) (v : Value) (hv : v = .int .u32 (f k : Nat)) (hk : k < 64) :
    Rw f w (wr.setCell ⟨r, k, none⟩ v) r (k + 1) (ts.setIfInBounds k v) := h.next v hv hk 0
theorem Z64_is : Is32 Z64 64 (fun _ => 0) := by
  refine ⟨rfl, fun i hi => ?_⟩
  unfold Z64
  rw [List.getElem?_toArray, List.getElem?_replicate, if_pos hi]
  rfl
theorem run_index_u8 (cs : Array Value) (k x : Nat) (w : World) (hk : k < 64) (hc : cs[k]? = some (.int .u8 x)) : (Instr.index 127 (.agg cs) (.int .i64 k)).run Try.prog w = .ok (.int .u8 x) w := by
  have hu := Try.underlying127
  have hi : (Try.prog.info? 5).map (fun i => (i.zero, i.size, i.bytes)) = some (some (.int .u8 0), 1, 1) := by kernel_rfl
  obtain ⟨i0, hi, hz0, hz1, hz2⟩ := info_parts hi
  have hlt := (Array.getElem?_eq_some_iff.1 hc).1
  simp [Instr.index, go_sem, run_underlying hu, sizeOf, typeInfo, hi, hz1]
  rw [if_pos hk, hc]
  rfl
theorem Rw.start3 (f : Nat → Nat) (w : World) (O : Obj) (A B : Array Value) (hA : A.size = 64) (hB : Is32 B 64 f) :
    Rw f w (((w.alloc O).alloc (.cells A 110)).alloc (.cells B 110)) (w.heap.size + 1 + 1) 64 B ∧ ∃ zs : Array Value, zs.size = 64 ∧ (((w.alloc O).alloc (.cells A 110)).alloc (.cells B 110)).heap[w.heap.size + 1]? = some (.cells zs 110 (0, 0)) := by
  refine ⟨⟨hB.size, hB.at', ?_, by omega, (((Below.refl _ _).alloc (Nat.le_refl _) _).alloc (by simp) _).alloc (by simp; omega) _⟩, A, hA, ?_⟩
  · have := heap_alloc_new ((w.alloc O).alloc (.cells A 110)) (.cells B 110)
    simpa using this
  · rw [Deep.blk_alloc_lt _ _ _ (by simp)]
    have := heap_alloc_new (w.alloc O) (.cells A 110)
    simpa using this
theorem keepS {w : World} {r a k : Nat} {v y : Value} (h : w.cell? ⟨r, a, none⟩ = some y) (hne : ¬ (k = a)) : (w.setCell ⟨r, k, none⟩ v).cell? ⟨r, a, none⟩ = some y := by
  rw [World.cell?_setCell_other _ _ _ _ (fun e => hne (by cases e; rfl))]
  exact h
theorem heap_set {w : World} {r k g : Nat} {v : Value} {o : Obj} (h : w.heap[g]? = some o) (hne : g ≠ r) : (w.setCell ⟨r, k, none⟩ v).heap[g]? = some o := by
  rw [Deep.blk_setCell_other _ _ _ _ hne]; exact h
set_option maxRecDepth 100000 in
set_option maxHeartbeats 4000000 in
theorem dSpread (b : Nat → Nat) (hb : ∀ j, b j < 256) (cs : Array Value) (hcs : Is8 cs 64 b) (w : World) :
    Calls Try.prog 91 #[.agg cs] w fun e w' => (∃ ws, e = .returned (.agg ws) ∧ Is32 ws 64 (Sha.wd b)) ∧ Below w.heap.size w w' := by
  have HC := hide hcs
  have HB := hide hb
  have hi1 : (Try.prog.info? 127).map (·.size) = some cs.size := by rw [infoB, hcs.size]
  have hu1 := Try.underlying127
  clear hcs hb
  go_enter Try.func91, Try.ntmps91
  go_wp2_with (first | (refine wpList_load_row rfl 127 (.tmp 1) rfl w.heap.size rfl 127 cs (0, 0) _ (by rw [Deep.blk_alloc_lt _ _ _ (by simp; omega), Deep.blk_alloc_lt _ _ _ (by simp)]; exact heap_alloc_new _ _) hu1 rfl hi1 ?_))
  clear hi1 hu1
  go_loopw [8] (fun i wr => ∃ k : Nat, ∃ ts : Array Value, k ≤ 64 ∧ i = .int .i64 k ∧ Hid (Rw (pw b k) w wr (w.heap.size + 1 + 1) 64 ts) ∧ Hid (∃ zs : Array Value, zs.size = 64 ∧ wr.heap[w.heap.size + 1]? = some (.cells zs 110 (0, 0)))) (fun i _ => 64 - (RowKit.intOf i).toNat)
  case atStart =>
    exact ⟨0, _, Nat.zero_le _, rfl, hide (Rw.start3 (pw b 0) w _ _ _ rfl Z64_is).1, hide (Rw.start3 (pw b 0) w _ _ _ rfl Z64_is).2⟩
  case round =>
    obtain ⟨k, ts, hk, rfl, HI, HZ⟩ := hrel
    by_cases hlt : k < 64
    · obtain ⟨j, hj⟩ : ∃ j, j = k / 4 := ⟨_, rfl⟩
      have q1 : (k : Int).tdiv 4 = (j : Int) := by rw [Int.tdiv_eq_ediv_of_nonneg (by omega)]; omega
      have q2 : (k : Int) / 4 = (j : Int) := by omega
      have hj16 : (j : Int) < 64 := by omega
      have hix := run_index_u8 cs k _ wr hlt ((unhide HC).at' k hlt)
      have hyl := unhide HB k
      have hc := (unhide HI).cell (j := j) (by omega)
      have hfz := (unhide HI).frozen j
      have hxl := pw_lt b (unhide HB) k j
      have hE : ∀ i, i ≠ j → pw b (k + 1) i = pw b k i := fun i hi => by rw [pw, if_neg (by omega)]
      have hZ : pw b (k + 1) j = (pw b k j * 256 % 4294967296) ||| b k := by rw [pw, if_pos hj]
      obtain ⟨z, hz⟩ : ∃ z, z = (pw b k j * 256 % 4294967296) ||| b k := ⟨_, rfl⟩
      have hZ2 := hZ.trans hz.symm
      obtain ⟨f1, hf1⟩ : ∃ f1 : Nat → Nat, f1 = fun i => if i = j then pw b k j * 256 % 4294967296 else pw b k i := ⟨_, rfl⟩
      have hf1j : f1 j = pw b k j * 256 % 4294967296 := by rw [hf1]; simp
      have hf1o : ∀ i, i ≠ j → f1 i = pw b k i := fun i hi => by rw [hf1]; simp [hi]
      have hN : ∀ v1 v2 : Value, v1 = .int .u32 ((pw b k j * 256 % 4294967296 : Nat) : Int) → v2 = .int .u32 ((z : Nat) : Int) → Rw (pw b (k + 1)) w ((wr.setCell ⟨w.heap.size + 1 + 1, j, none⟩ v1).setCell ⟨w.heap.size + 1 + 1, j, none⟩ v2) (w.heap.size + 1 + 1) 64 ((ts.setIfInBounds j v1).setIfInBounds j v2) := by
        intro v1 v2 h1 h2
        exact Rw.upd (Rw.upd (f' := f1) (unhide HI) v1 (by rw [h1, hf1j]) (by omega) hf1o) v2 (by rw [h2, hZ2]) (by omega) (fun i hi => by rw [hE i hi, hf1o i hi])
      have HN := hide hN
      clear hN hE hZ hZ2 hf1 hf1j hf1o hj
      generalize pw b k j = x at *
      generalize b k = y at *
      have eo : bits .or .u32 ((x : Int) * 256 % 4294967296) (y : Int) = (z : Int) := by
        rw [show (x : Int) * 256 % 4294967296 = ((x * 256 % 4294967296 : Nat) : Int) from by omega, o32 _ _ (by omega) (by omega), hz]
      have HZZ := hide hz
      clear hz
      go_wp2
      go_roundw
      case rel =>
        refine ⟨k + 1, _, by omega, by go_num, hide (unhide HN _ _ ?_ ?_), ?_⟩
        · congr 1
        · rfl
        · obtain ⟨zs, hz1, hz2⟩ := unhide HZ
          exact hide ⟨zs, hz1, heap_set (heap_set hz2 (by omega)) (by omega)⟩
      case measure => simp [RowKit.intOf]; omega
    · have hkk : k = 64 := by omega
      subst hkk
      have HI2 := hide ((unhide HI).less (f' := Sha.wd b) (k' := 16) (by decide) (fun j hj => by rw [Sha.wd_first b j hj, pw_be b (unhide HB) j hj]))
      clear HI
      go_wp2
      go_loopw [6] (fun i wr => ∃ k : Nat, ∃ ts : Array Value, 16 ≤ k ∧ k ≤ 64 ∧ i = .int .i64 k ∧ Hid (Rw (Sha.wd b) w wr (w.heap.size + 1 + 1) k ts) ∧ Hid (∃ zs : Array Value, zs.size = 64 ∧ wr.heap[w.heap.size + 1]? = some (.cells zs 110 (0, 0)))) (fun i _ => 64 - (RowKit.intOf i).toNat)
      case atStart => exact ⟨16, _, by omega, by omega, rfl, HI2, HZ⟩
      case round =>
        clear HI2 HZ
        obtain ⟨k, ts, hk16, hk, rfl, HI, HZ⟩ := hrel
        by_cases hlt : k < 64
        · obtain ⟨a16, ha16⟩ : ∃ j, j = k - 16 := ⟨_, rfl⟩
          obtain ⟨a15, ha15⟩ : ∃ j, j = k - 15 := ⟨_, rfl⟩
          obtain ⟨a7, ha7⟩ : ∃ j, j = k - 7 := ⟨_, rfl⟩
          obtain ⟨a2, ha2⟩ : ∃ j, j = k - 2 := ⟨_, rfl⟩
          have p15 : (k : Int) - 15 = (a15 : Int) := by omega
          have p2 : (k : Int) - 2 = (a2 : Int) := by omega
          have p16 : (k : Int) - 16 = (a16 : Int) := by omega
          have p7 : (k : Int) - 7 = (a7 : Int) := by omega
          have r16 : IntKind.i64.wrap (a16 : Int) = (a16 : Int) := by rw [IntKind.wrap_i64]; omega
          have r15 : IntKind.i64.wrap (a15 : Int) = (a15 : Int) := by rw [IntKind.wrap_i64]; omega
          have r7 : IntKind.i64.wrap (a7 : Int) = (a7 : Int) := by rw [IntKind.wrap_i64]; omega
          have r2 : IntKind.i64.wrap (a2 : Int) = (a2 : Int) := by rw [IntKind.wrap_i64]; omega
          have hq16 : (a16 : Int) < 64 := by omega
          have hq15 : (a15 : Int) < 64 := by omega
          have hq7 : (a7 : Int) < 64 := by omega
          have hq2 : (a2 : Int) < 64 := by omega
          have hqk : (k : Int) < 64 := by omega
          have c16 := (unhide HI).cell (j := a16) (by omega)
          have c15 := (unhide HI).cell (j := a15) (by omega)
          have c7 := (unhide HI).cell (j := a7) (by omega)
          have c2 := (unhide HI).cell (j := a2) (by omega)
          have n16 : ¬ (k = a16) := by omega
          have n7 : ¬ (k = a7) := by omega
          have n15 : ¬ (k = a15) := by omega
          have n2 : ¬ (k = a2) := by omega
          have hV : Sha.wd b k = (Sha.wd b a16 + Sha.s0 (Sha.wd b a15) + Sha.wd b a7 + Sha.s1 (Sha.wd b a2)) % 4294967296 := by rw [Sha.wd_next b k (by omega), ha16, ha15, ha7, ha2]
          have HV := hide hV
          have HL4 : Hid (Sha.wd b a16 < 4294967296 ∧ Sha.wd b a7 < 4294967296) := ⟨Sha.wd_lt b (unhide HB) _, Sha.wd_lt b (unhide HB) _⟩
          have hl15 := Sha.wd_lt b (unhide HB) a15
          have hl2 := Sha.wd_lt b (unhide HB) a2
          clear hV ha16 ha15 ha7 ha2
          generalize Sha.wd b a16 = y16 at *
          generalize Sha.wd b a15 = y15 at *
          generalize Sha.wd b a7 = y7 at *
          generalize Sha.wd b a2 = y2 at *
          obtain ⟨Z0, hZ0⟩ : ∃ A, A = Sha.s0 y15 := ⟨_, rfl⟩
          obtain ⟨Z1, hZ1⟩ : ∃ A, A = Sha.s1 y2 := ⟨_, rfl⟩
          rw [← hZ0, ← hZ1] at HV
          have HZ0 : Hid (Z0 < 4294967296 ∧ Z1 < 4294967296) := by rw [hZ0, hZ1]; exact ⟨Sha.s0_lt hl15, Sha.s1_lt hl2⟩
          have M1 : Hid (∀ u, Calls Try.prog 93 #[.int .u32 y15, .int .u64 7, .int .u64 18, .int .u64 3] u fun e w' => e = .returned (.int .u32 (Z0 : Nat)) ∧ w' = u) := hide (fun u => by rw [hZ0, ← lo_s0]; exact dLaidOver y15 7 18 3 u hl15 (by decide) (by decide) (by decide) (by decide) (by decide))
          have M2 : Hid (∀ u, Calls Try.prog 93 #[.int .u32 y2, .int .u64 17, .int .u64 19, .int .u64 10] u fun e w' => e = .returned (.int .u32 (Z1 : Nat)) ∧ w' = u) := hide (fun u => by rw [hZ1, ← lo_s1]; exact dLaidOver y2 17 19 10 u hl2 (by decide) (by decide) (by decide) (by decide) (by decide))
          obtain ⟨v0, hv0⟩ := (unhide HI).cell' hlt
          have hfz := (unhide HI).frozen k
          clear hZ0 hZ1 hl15 hl2
          have HVAL : Hid (Value.int .u32 ((((( y16 : Int) + y7) % 4294967296 + Z0) % 4294967296 + Z1) % 4294967296) = .int .u32 (Sha.wd b k : Nat)) := by
            show Value.int _ _ = Value.int _ _
            rw [unhide HV]
            congr 1
            have := unhide HL4
            have := unhide HZ0
            omega
          have HN := hide (fun (v1 v2 v3 : Value) (hv : v3 = .int .u32 (Sha.wd b k : Nat)) => And.intro (((((unhide HI).set0 v1).set0 v2).next0 v3 hv hlt).drew.drew.drew) (by
            obtain ⟨zs, hz1, hz2⟩ := unhide HZ
            exact ⟨zs, hz1, heap_set (heap_set (heap_set hz2 (by omega)) (by omega)) (by omega)⟩ : ∃ zs : Array Value, zs.size = 64 ∧ (((wr.setCell ⟨w.heap.size + 1 + 1, k, none⟩ v1).setCell ⟨w.heap.size + 1 + 1, k, none⟩ v2).setCell ⟨w.heap.size + 1 + 1, k, none⟩ v3).drew.drew.drew.heap[w.heap.size + 1]? = some (.cells zs 110 (0, 0))))
          go_wp2
          go_region_held3 (fun u => u.cell? ⟨w.heap.size + 1 + 1, a16, none⟩ = some (.int .u32 y16) ∧ u.cell? ⟨w.heap.size + 1 + 1, a7, none⟩ = some (.int .u32 y7)) (first | (go_keep; done) | exact ⟨keepS c16 n16, keepS c7 n7⟩) (fail)
          go_wp2
          go_region_with (go_at_call 93; refine (unhide M1 _).mono ?_; rintro e w1 ⟨rfl, rfl⟩)
          all_goals go_wp2
          all_goals go_region_with (go_at_call 93; refine (unhide M2 _).mono ?_; rintro e w1 ⟨rfl, rfl⟩)
          all_goals go_wp2
          all_goals go_roundw
          all_goals first
            | exact ⟨_, _, _, _, _, _, _, _, _, _, _, _, _, _, _, _, _, _, _, _, _, _, _, _, _, _, _, _, _, _, _, _, _, _, _, _, ⟨k + 1, _, by omega, by omega, by go_num, hide (unhide HN _ _ _ (unhide HVAL)).1, hide (unhide HN _ _ _ (unhide HVAL)).2⟩, rfl⟩
            | (simp [RowKit.intOf]; omega)
        · have hkk : k = 64 := by omega
          subst hkk
          obtain ⟨zs, h3, h4⟩ := unhide HZ
          have h6 := (unhide HI).row
          have h1 := (unhide HI).size
          have hu := Try.underlying110
          have hi : (Try.prog.info? 110).map (·.size) = some ts.size := by rw [infoW, h1]
          go_wp2_with (first | (refine wpList_load_row rfl 110 (.tmp 3) rfl (w.heap.size + 1 + 1) rfl 110 ts (0, 0) _ h6 hu rfl hi ?_) | (refine wpList_store_row rfl 110 (.tmp 2) (.tmp 62) rfl (w.heap.size + 1) ts rfl rfl 110 zs h4 hi (by rw [h3, h1]) (unhide HI).is.one ?_))
          refine bodyPost_ret (results_cell_row rfl _ _ (w.heap.size + 1) 110 ts (0, 0) _ rfl (heapRow_same h4 ts) hu rfl hi) rfl ?_
          exact ⟨⟨ts, rfl, (unhide HI).is⟩, belowRow (unhide HI).bel (by omega) _⟩
end
section
open Go.RowKit
/-- the words of a state are words -/
structure Ok (s : Sha.St) : Prop where
  a : s.a < 4294967296
  b : s.b < 4294967296
  c : s.c < 4294967296
  d : s.d < 4294967296
  e : s.e < 4294967296
  f : s.f < 4294967296
  g : s.g < 4294967296
  h : s.h < 4294967296
theorem Ok.start : Ok Sha.start := by constructor <;> decide
theorem Ok.step {s : Sha.St} (h : Ok s) (k w : Nat) : Ok (Sha.rstep s k w) := ⟨Nat.mod_lt _ (by decide), h.a, h.b, h.c, Nat.mod_lt _ (by decide), h.e, h.f, h.g⟩
theorem Ok.rnd {s : Sha.St} (h : Ok s) (b : Nat → Nat) (n : Nat) : Ok (Sha.rnd b s n) := by
  induction n with
  | zero => exact h
  | succ n ih => exact ih.step _ _
theorem Ok.add (s t : Sha.St) : Ok (Sha.add s t) := ⟨Nat.mod_lt _ (by decide), Nat.mod_lt _ (by decide), Nat.mod_lt _ (by decide), Nat.mod_lt _ (by decide), Nat.mod_lt _ (by decide), Nat.mod_lt _ (by decide), Nat.mod_lt _ (by decide), Nat.mod_lt _ (by decide)⟩
theorem Ok.mix (s : Sha.St) (l : List UInt8) : Ok (Sha.mix s l) := Ok.add _ _
/-- what the walk's parts of a round are, in words -/
structure Rd1 (e f g : Nat) (A B C D E F : Nat) : Prop where
  p1 : bits .xor .u32 ((Sha.rot e 6 : Nat) : Int) ((Sha.rot e 11 : Nat) : Int) = (A : Int)
  p2 : bits .xor .u32 (A : Int) ((Sha.rot e 25 : Nat) : Int) = (B : Int)
  p3 : bits .and .u32 (e : Int) (f : Int) = (C : Int)
  p4 : bits .xor .u32 IntKind.u32.max (e : Int) = (D : Int)
  p5 : bits .and .u32 (D : Int) (g : Int) = (E : Int)
  p6 : bits .xor .u32 (C : Int) (E : Int) = (F : Int)
theorem Rd1.make (e f g : Nat) (he : e < 4294967296) (hf : f < 4294967296) (hg : g < 4294967296) : ∃ A B C D E F : Nat, Rd1 e f g A B C D E F ∧ Hid (B = Sha.S1 e ∧ F = Sha.ch e f g) := by
  refine ⟨Sha.rot e 6 ^^^ Sha.rot e 11, Sha.S1 e, e &&& f, 4294967295 - e, (4294967295 - e) &&& g, Sha.ch e f g, ⟨x32 _ _ (Sha.rot_lt _ _ he) (Sha.rot_lt _ _ he), x32 _ _ (xor_lt (Sha.rot_lt _ _ he) (Sha.rot_lt _ _ he)) (Sha.rot_lt _ _ he), n32 _ _ he hf, not32 _ he, n32 _ _ (by omega) hg, x32 _ _ (and_lt he) (and_lt (by omega))⟩, rfl, rfl⟩
structure Rd2 (a b c : Nat) (A B C D E G F : Nat) : Prop where
  p1 : bits .xor .u32 ((Sha.rot a 2 : Nat) : Int) ((Sha.rot a 13 : Nat) : Int) = (A : Int)
  p2 : bits .xor .u32 (A : Int) ((Sha.rot a 22 : Nat) : Int) = (B : Int)
  p3 : bits .and .u32 (a : Int) (b : Int) = (C : Int)
  p4 : bits .and .u32 (a : Int) (c : Int) = (D : Int)
  p5 : bits .and .u32 (b : Int) (c : Int) = (E : Int)
  p6 : bits .xor .u32 (C : Int) (D : Int) = (G : Int)
  p7 : bits .xor .u32 (G : Int) (E : Int) = (F : Int)
theorem Rd2.make (a b c : Nat) (ha : a < 4294967296) (hb : b < 4294967296) (hc : c < 4294967296) : ∃ A B C D E G F : Nat, Rd2 a b c A B C D E G F ∧ Hid (B = Sha.S0 a ∧ F = Sha.maj a b c) := by
  refine ⟨Sha.rot a 2 ^^^ Sha.rot a 13, Sha.S0 a, a &&& b, a &&& c, b &&& c, (a &&& b) ^^^ (a &&& c), Sha.maj a b c, ⟨x32 _ _ (Sha.rot_lt _ _ ha) (Sha.rot_lt _ _ ha), x32 _ _ (xor_lt (Sha.rot_lt _ _ ha) (Sha.rot_lt _ _ ha)) (Sha.rot_lt _ _ ha), n32 _ _ ha hb, n32 _ _ ha hc, n32 _ _ hb hc, x32 _ _ (and_lt ha) (and_lt ha), x32 _ _ (xor_lt (and_lt ha) (and_lt ha)) (and_lt hb)⟩, rfl, rfl⟩
end
section
open Go.RowKit
/-- a word of a state -/
def fld (s : Sha.St) : Nat → Nat
  | 0 => s.a
  | 1 => s.b
  | 2 => s.c
  | 3 => s.d
  | 4 => s.e
  | 5 => s.f
  | 6 => s.g
  | _ => s.h
theorem St8_at (s : Sha.St) (j : Nat) (hj : j < 8) : (St8 s)[j]? = some (.int .u32 (fld s j : Nat)) := by
  match j, hj with
  | 0, _ => rfl
  | 1, _ => rfl
  | 2, _ => rfl
  | 3, _ => rfl
  | 4, _ => rfl
  | 5, _ => rfl
  | 6, _ => rfl
  | 7, _ => rfl
theorem St8_is (s : Sha.St) : Is32 (St8 s) 8 (fld s) := ⟨rfl, St8_at s⟩
theorem Is32.eq8 {cs : Array Value} {s : Sha.St} (h : Is32 cs 8 (fld s)) : cs = St8 s := by
  apply Array.ext_getElem?
  intro i
  by_cases hi : i < 8
  · rw [h.at' i hi, St8_at s i hi]
  · rw [Array.getElem?_eq_none (by rw [h.size]; omega), Array.getElem?_eq_none (by rw [(St8_is s).size]; omega)]
theorem fld_add (s t : Sha.St) (j : Nat) (hj : j < 8) : fld (Sha.add s t) j = (fld s j + fld t j) % 4294967296 := by
  match j, hj with
  | 0, _ => rfl
  | 1, _ => rfl
  | 2, _ => rfl
  | 3, _ => rfl
  | 4, _ => rfl
  | 5, _ => rfl
  | 6, _ => rfl
  | 7, _ => rfl
theorem fld_lt {s : Sha.St} (h : Ok s) (j : Nat) : fld s j < 4294967296 := by
  match j with
  | 0 => exact h.a
  | 1 => exact h.b
  | 2 => exact h.c
  | 3 => exact h.d
  | 4 => exact h.e
  | 5 => exact h.f
  | 6 => exact h.g
  | 7 => exact h.h
  | _ + 8 => exact h.h
theorem run_index_u32 (cs : Array Value) (k x : Nat) (w : World) (hk : k < 8) (hc : cs[k]? = some (.int .u32 x)) : (Instr.index 90 (.agg cs) (.int .i64 k)).run Try.prog w = .ok (.int .u32 x) w := by
  have hu := Try.underlying90
  have hi : (Try.prog.info? 55).map (fun i => (i.zero, i.size, i.bytes)) = some (some (.int .u32 0), 1, 4) := by kernel_rfl
  obtain ⟨i0, hi, hz0, hz1, hz2⟩ := info_parts hi
  have hlt := (Array.getElem?_eq_some_iff.1 hc).1
  simp [Instr.index, go_sem, run_underlying hu, sizeOf, typeInfo, hi, hz1]
  rw [if_pos hk, hc]
  rfl
/-- a row of eight words that is being summed up -/
structure R8 (f : Nat → Nat) (w wr : World) (r : Nat) (ts : Array Value) : Prop where
  is : Is32 ts 8 f
  row : wr.heap[r]? = some (.cells ts 90 (0, 0))
  lt : w.heap.size ≤ r
  bel : Below w.heap.size w wr
theorem R8.cell {f : Nat → Nat} {w wr : World} {r : Nat} {ts : Array Value} (h : R8 f w wr r ts) {j : Nat} (hj : j < 8) : wr.cell? ⟨r, j, none⟩ = some (.int .u32 (f j : Nat)) := by
  simp [World.cell?, h.row, h.is.at' j hj]
theorem R8.frozen {f : Nat → Nat} {w wr : World} {r : Nat} {ts : Array Value} (h : R8 f w wr r ts) (j : Nat) : wr.frozen? ⟨r, j, none⟩ = false := by
  simp [World.frozen?, h.row]
theorem R8.upd {f f' : Nat → Nat} {w wr : World} {r k : Nat} {ts : Array Value} (h : R8 f w wr r ts) (v : Value) (n : Nat) (hv : v = .int .u32 (f' k : Nat)) (hk : k < 8) (hf : ∀ j, j ≠ k → f' j = f j) :
    R8 f' w ((wr.setCell ⟨r, k, none⟩ v).drewN n) r (ts.setIfInBounds k v) := by
  subst hv
  refine ⟨⟨by simpa using h.is.size, ?_⟩, heapCell_same h.row _ _, h.lt, belowDrewN (belowCell h.bel h.lt _) _⟩
  intro j hj
  rw [Array.getElem?_setIfInBounds]
  by_cases hjk : k = j
  · subst hjk; rw [if_pos rfl, if_pos (by rw [h.is.size]; exact hk)]
  · rw [if_neg hjk, hf j (fun e => hjk e.symm)]; exact h.is.at' j hj
theorem R8.upd0 {f f' : Nat → Nat} {w wr : World} {r k : Nat} {ts : Array Value} (h : R8 f w wr r ts) (v : Value) (hv : v = .int .u32 (f' k : Nat)) (hk : k < 8) (hf : ∀ j, j ≠ k → f' j = f j) :
    R8 f' w (wr.setCell ⟨r, k, none⟩ v) r (ts.setIfInBounds k v) := h.upd v 0 hv hk hf
/-- the sums of the first k words -/
def su (s t : Sha.St) (k j : Nat) : Nat := if j < k then (fld s j + fld t j) % 4294967296 else fld s j
theorem su_same (s t : Sha.St) (k : Nat) : su s t (k + 1) k = (fld s k + fld t k) % 4294967296 := by unfold su; rw [if_pos (by omega)]
theorem su_here (s t : Sha.St) (k : Nat) : su s t k k = fld s k := by unfold su; rw [if_neg (by omega)]
theorem su_other (s t : Sha.St) (k j : Nat) (h : j ≠ k) : su s t (k + 1) j = su s t k j := by
  unfold su
  by_cases hj : j < k
  · rw [if_pos hj, if_pos (by omega)]
  · rw [if_neg hj, if_neg (by omega)]
/-- what lies in memory while a block is mixed in -/
structure Mx (b : Nat → Nat) (s : Sha.St) (w wr : World) (m tb : Nat) (z8 : Array Value) : Prop where
  st : wr.heap[w.heap.size]? = some (.cells (St8 s) 90 (0, 0))
  z : z8.size = 8
  res : wr.heap[w.heap.size + 1 + 1]? = some (.cells z8 90 (0, 0))
  wo : ∀ i, i < 64 → wr.cell? ⟨m, i, none⟩ = some (.int .u32 (Sha.wd b i : Nat))
  tab : ∀ i, i < 64 → wr.cell? ⟨tb, i, none⟩ = some (.int .u32 (Sha.K.getD i 0 : Nat))
  bel : Below w.heap.size w wr
theorem Mx.drewN {b : Nat → Nat} {s : Sha.St} {w wr : World} {m tb : Nat} {z8 : Array Value} (h : Mx b s w wr m tb z8) (n : Nat) : Mx b s w (wr.drewN n) m tb z8 := ⟨h.st, h.z, h.res, h.wo, h.tab, belowDrewN h.bel _⟩
theorem Mx.cell {b : Nat → Nat} {s : Sha.St} {w wr : World} {m tb : Nat} {z8 : Array Value} (h : Mx b s w wr m tb z8) (j : Nat) (hj : j < 8) : wr.cell? ⟨w.heap.size, j, none⟩ = some (.int .u32 (fld s j : Nat)) := by
  simp [World.cell?, h.st, St8_at s j hj]
theorem Mx.make (b : Nat → Nat) (s : Sha.St) (w w1 : World) (tb : Nat) (z8 ws A : Array Value) (O : Obj) (hz : z8.size = 8) (hws : Is32 ws 64 (Sha.wd b)) (htb : tb < w.heap.size) (ht : ∀ i, i < 64 → w.cell? ⟨tb, i, none⟩ = some (.int .u32 (Sha.K.getD i 0 : Nat)))
    (hb : Below (((w.alloc (.cells (St8 s) 90)).alloc O).alloc (.cells z8 90)).heap.size (((w.alloc (.cells (St8 s) 90)).alloc O).alloc (.cells z8 90)) w1) :
    Mx b s w ((w1.alloc (.cells A 110)).setRow w1.heap.size ws) w1.heap.size tb z8 := by
  have hs : w.heap.size + 3 ≤ w1.heap.size := by have := hb.size; simp at this; omega
  have h0 : ∀ k, k < w.heap.size + 3 → ((w1.alloc (.cells A 110)).setRow w1.heap.size ws).heap[k]? = (((w.alloc (.cells (St8 s) 90)).alloc O).alloc (.cells z8 90)).heap[k]? := by
    intro k hk
    rw [heapRow_other _ _ _ _ (by omega), Deep.blk_alloc_lt _ _ _ (by omega)]
    exact hb.block k (by simp; omega)
  have hbel0 : Below w.heap.size w (((w.alloc (.cells (St8 s) 90)).alloc O).alloc (.cells z8 90)) := (((Below.refl _ _).alloc (Nat.le_refl _) _).alloc (by simp) _).alloc (by simp; omega) _
  have hbel : Below w.heap.size w ((w1.alloc (.cells A 110)).setRow w1.heap.size ws) := belowRow ((hbel0.trans (hb.mono (by simp; omega))).alloc (by omega) _) (by omega) _
  refine ⟨?_, hz, ?_, ?_, ?_, hbel⟩
  · rw [h0 _ (by omega), Deep.blk_alloc_lt _ _ _ (by simp; omega), Deep.blk_alloc_lt _ _ _ (by simp)]
    exact heap_alloc_new _ _
  · rw [h0 _ (by omega)]
    have := heap_alloc_new ((w.alloc (.cells (St8 s) 90)).alloc O) (.cells z8 90)
    simpa using this
  · intro i hi
    have := heapRow_same (heap_alloc_new w1 (.cells A 110)) ws
    simp only [World.cell?, this]
    exact hws.at' i hi
  · intro i hi
    exact (hbel.cell (p := ⟨tb, i, none⟩) htb).trans (ht i hi)
end
section
open Go.RowKit
set_option maxRecDepth 100000 in
set_option maxHeartbeats 2000000 in
theorem dMixed (b : Nat → Nat) (hb : ∀ j, b j < 256) (s : Sha.St) (hs : Ok s) (cs : Array Value) (hcs : Is8 cs 64 b) (tb : Nat) (w : World) (htb : tb < w.heap.size) (ht : ∀ i, i < 64 → w.cell? ⟨tb, i, none⟩ = some (.int .u32 (Sha.K.getD i 0 : Nat))) :
    Calls Try.prog 90 #[.agg (St8 s), .agg cs, .pointer (some ⟨tb, 0, none⟩)] w fun e w' => e = .returned (.agg (St8 (Sha.add s (Sha.rnd b s 64)))) ∧ Below w.heap.size w w' := by
  have HS := hide hs
  have HB := hide hb
  have HC := hide hcs
  have HT := hide ht
  have hi1 : (Try.prog.info? 127).map (·.size) = some cs.size := by rw [infoB, hcs.size]
  have hu1 := Try.underlying127
  clear hs hb hcs ht
  go_enter Try.func90, Try.ntmps90
  go_wp2_with (first | (refine wpList_load_row rfl 127 (.tmp 4) rfl (w.heap.size + 1) rfl 127 cs (0, 0) _ (by rw [Deep.blk_alloc_lt _ _ _ (by simp)]; simpa using heap_alloc_new (w.alloc (.cells (St8 s) 90)) (.cells cs 127)) hu1 rfl hi1 ?_))
  refine (dSpread b (unhide HB) cs (unhide HC) _).mono ?_
  rintro e w1 ⟨⟨ws, rfl, hws⟩, hbel⟩
  have HM := hide (Mx.make b s w w1 tb #[.int .u32 0, .int .u32 0, .int .u32 0, .int .u32 0, .int .u32 0, .int .u32 0, .int .u32 0, .int .u32 0] ws #[.int .u32 0, .int .u32 0, .int .u32 0, .int .u32 0, .int .u32 0, .int .u32 0, .int .u32 0, .int .u32 0, .int .u32 0, .int .u32 0, .int .u32 0, .int .u32 0, .int .u32 0, .int .u32 0, .int .u32 0, .int .u32 0, .int .u32 0, .int .u32 0, .int .u32 0, .int .u32 0, .int .u32 0, .int .u32 0, .int .u32 0, .int .u32 0, .int .u32 0, .int .u32 0, .int .u32 0, .int .u32 0, .int .u32 0, .int .u32 0, .int .u32 0, .int .u32 0, .int .u32 0, .int .u32 0, .int .u32 0, .int .u32 0, .int .u32 0, .int .u32 0, .int .u32 0, .int .u32 0, .int .u32 0, .int .u32 0, .int .u32 0, .int .u32 0, .int .u32 0, .int .u32 0, .int .u32 0, .int .u32 0, .int .u32 0, .int .u32 0, .int .u32 0, .int .u32 0, .int .u32 0, .int .u32 0, .int .u32 0, .int .u32 0, .int .u32 0, .int .u32 0, .int .u32 0, .int .u32 0, .int .u32 0, .int .u32 0, .int .u32 0, .int .u32 0] _ rfl hws htb (unhide HT) hbel)
  have hi2 : (Try.prog.info? 110).map (·.size) = some ws.size := by rw [infoW, hws.size]
  have hws1 := hws.one
  have hws2 := hws.size
  clear hbel hws hi1 hu1
  go_wp2_with (first | (refine wpList_store_row rfl 110 (.tmp 7) (.tmp 23) rfl w1.heap.size ws rfl rfl 110 #[.int .u32 0, .int .u32 0, .int .u32 0, .int .u32 0, .int .u32 0, .int .u32 0, .int .u32 0, .int .u32 0, .int .u32 0, .int .u32 0, .int .u32 0, .int .u32 0, .int .u32 0, .int .u32 0, .int .u32 0, .int .u32 0, .int .u32 0, .int .u32 0, .int .u32 0, .int .u32 0, .int .u32 0, .int .u32 0, .int .u32 0, .int .u32 0, .int .u32 0, .int .u32 0, .int .u32 0, .int .u32 0, .int .u32 0, .int .u32 0, .int .u32 0, .int .u32 0, .int .u32 0, .int .u32 0, .int .u32 0, .int .u32 0, .int .u32 0, .int .u32 0, .int .u32 0, .int .u32 0, .int .u32 0, .int .u32 0, .int .u32 0, .int .u32 0, .int .u32 0, .int .u32 0, .int .u32 0, .int .u32 0, .int .u32 0, .int .u32 0, .int .u32 0, .int .u32 0, .int .u32 0, .int .u32 0, .int .u32 0, .int .u32 0, .int .u32 0, .int .u32 0, .int .u32 0, .int .u32 0, .int .u32 0, .int .u32 0, .int .u32 0, .int .u32 0] (heap_alloc_new _ _) hi2 (by rw [hws2]; rfl) hws1 ?_))
  clear hi2 hws1 hws2
  generalize (w1.alloc (.cells #[.int .u32 0, .int .u32 0, .int .u32 0, .int .u32 0, .int .u32 0, .int .u32 0, .int .u32 0, .int .u32 0, .int .u32 0, .int .u32 0, .int .u32 0, .int .u32 0, .int .u32 0, .int .u32 0, .int .u32 0, .int .u32 0, .int .u32 0, .int .u32 0, .int .u32 0, .int .u32 0, .int .u32 0, .int .u32 0, .int .u32 0, .int .u32 0, .int .u32 0, .int .u32 0, .int .u32 0, .int .u32 0, .int .u32 0, .int .u32 0, .int .u32 0, .int .u32 0, .int .u32 0, .int .u32 0, .int .u32 0, .int .u32 0, .int .u32 0, .int .u32 0, .int .u32 0, .int .u32 0, .int .u32 0, .int .u32 0, .int .u32 0, .int .u32 0, .int .u32 0, .int .u32 0, .int .u32 0, .int .u32 0, .int .u32 0, .int .u32 0, .int .u32 0, .int .u32 0, .int .u32 0, .int .u32 0, .int .u32 0, .int .u32 0, .int .u32 0, .int .u32 0, .int .u32 0, .int .u32 0, .int .u32 0, .int .u32 0, .int .u32 0, .int .u32 0] 110)).setRow w1.heap.size ws = W2 at HM ⊢
  generalize w1.heap.size = m at HM ⊢
  have g0 := (unhide HM).cell 0 (by decide)
  have g1 := (unhide HM).cell 1 (by decide)
  have g2 := (unhide HM).cell 2 (by decide)
  have g3 := (unhide HM).cell 3 (by decide)
  have g4 := (unhide HM).cell 4 (by decide)
  have g5 := (unhide HM).cell 5 (by decide)
  have g6 := (unhide HM).cell 6 (by decide)
  have g7 := (unhide HM).cell 7 (by decide)
  go_quiet (fail)
  clear g0 g1 g2 g3 g4 g5 g6 g7
  go_wp2
  go_loopw [8, 9, 10, 11, 12, 13, 14, 15, 41] (fun va vb vc vd ve vf vg vh vi wr => ∃ (k a1 b1 c1 d1 e1 f1 g1 h1 : Nat), k ≤ 64 ∧ va = .int .u32 a1 ∧ vb = .int .u32 b1 ∧ vc = .int .u32 c1 ∧ vd = .int .u32 d1 ∧ ve = .int .u32 e1 ∧ vf = .int .u32 f1 ∧ vg = .int .u32 g1 ∧ vh = .int .u32 h1 ∧ vi = .int .i64 k ∧ Hid (Sha.rnd b s k = ⟨a1, b1, c1, d1, e1, f1, g1, h1⟩) ∧ Hid (Mx b s w wr m tb #[.int .u32 0, .int .u32 0, .int .u32 0, .int .u32 0, .int .u32 0, .int .u32 0, .int .u32 0, .int .u32 0])) (fun _ _ _ _ _ _ _ _ vi _ => 64 - (RowKit.intOf vi).toNat)
  case atStart => exact ⟨0, s.a, s.b, s.c, s.d, s.e, s.f, s.g, s.h, by omega, rfl, rfl, rfl, rfl, rfl, rfl, rfl, rfl, rfl, rfl, hide ((unhide HM).drewN _)⟩
  case round =>
    clear HM
    obtain ⟨k, a1, b1, c1, d1, e1, f1, g1, h1, hk, rfl, rfl, rfl, rfl, rfl, rfl, rfl, rfl, rfl, HR, HM⟩ := hrel
    have hok : Ok ⟨a1, b1, c1, d1, e1, f1, g1, h1⟩ := by rw [← unhide HR]; exact (unhide HS).rnd b k
    by_cases hlt : k < 64
    · have ha := hok.a
      have hb := hok.b
      have hc := hok.c
      have hd := hok.d
      have he := hok.e
      have hf := hok.f
      have hg := hok.g
      have hh := hok.h
      simp only at ha hb hc hd he hf hg hh
      have cw := (unhide HM).wo k hlt
      have ct := (unhide HM).tab k hlt
      have HL : Hid (Sha.wd b k < 4294967296 ∧ Sha.K.getD k 0 < 4294967296) := ⟨Sha.wd_lt b (unhide HB) k, K_lt k⟩
      have HN : Hid (Sha.rnd b s (k + 1) = Sha.rstep ⟨a1, b1, c1, d1, e1, f1, g1, h1⟩ (Sha.K.getD k 0) (Sha.wd b k)) := by
        show Sha.rstep (Sha.rnd b s k) _ _ = _
        rw [unhide HR]
      obtain ⟨A1, B1, C1, D1, E1, F1, ⟨p1, p2, p3, p4, p5, p6⟩, H1⟩ := Rd1.make e1 f1 g1 he hf hg
      obtain ⟨A2, B2, C2, D2, E2, G2, F2, ⟨q1, q2, q3, q4, q5, q6, q7⟩, H2⟩ := Rd2.make a1 b1 c1 ha hb hc
      have hki : (k : Int) < 64 := by omega
      have T1 : Hid (∀ u, Calls Try.prog 92 #[.int .u32 e1, .int .u64 6] u fun e w' => e = .returned (.int .u32 (Sha.rot e1 6 : Nat)) ∧ w' = u) := hide fun u => dTurned e1 6 u he (by decide) (by decide)
      have T2 : Hid (∀ u, Calls Try.prog 92 #[.int .u32 e1, .int .u64 11] u fun e w' => e = .returned (.int .u32 (Sha.rot e1 11 : Nat)) ∧ w' = u) := hide fun u => dTurned e1 11 u he (by decide) (by decide)
      have T3 : Hid (∀ u, Calls Try.prog 92 #[.int .u32 e1, .int .u64 25] u fun e w' => e = .returned (.int .u32 (Sha.rot e1 25 : Nat)) ∧ w' = u) := hide fun u => dTurned e1 25 u he (by decide) (by decide)
      have T4 : Hid (∀ u, Calls Try.prog 92 #[.int .u32 a1, .int .u64 2] u fun e w' => e = .returned (.int .u32 (Sha.rot a1 2 : Nat)) ∧ w' = u) := hide fun u => dTurned a1 2 u ha (by decide) (by decide)
      have T5 : Hid (∀ u, Calls Try.prog 92 #[.int .u32 a1, .int .u64 13] u fun e w' => e = .returned (.int .u32 (Sha.rot a1 13 : Nat)) ∧ w' = u) := hide fun u => dTurned a1 13 u ha (by decide) (by decide)
      have T6 : Hid (∀ u, Calls Try.prog 92 #[.int .u32 a1, .int .u64 22] u fun e w' => e = .returned (.int .u32 (Sha.rot a1 22 : Nat)) ∧ w' = u) := hide fun u => dTurned a1 22 u ha (by decide) (by decide)
      have HO : Hid (B1 < 4294967296 ∧ F1 < 4294967296 ∧ B2 < 4294967296 ∧ F2 < 4294967296) := by
        rw [(unhide H1).1, (unhide H1).2, (unhide H2).1, (unhide H2).2]
        exact ⟨xor_lt (xor_lt (Sha.rot_lt _ _ he) (Sha.rot_lt _ _ he)) (Sha.rot_lt _ _ he), xor_lt (and_lt he) (and_lt (by omega)), xor_lt (xor_lt (Sha.rot_lt _ _ ha) (Sha.rot_lt _ _ ha)) (Sha.rot_lt _ _ ha), xor_lt (xor_lt (and_lt ha) (and_lt ha)) (and_lt hb)⟩
      generalize Sha.wd b k = y at *
      generalize Sha.K.getD k 0 = q at *
      have HA : Hid (d1 < 4294967296 ∧ h1 < 4294967296) := ⟨hd, hh⟩
      clear hok ha hb hc hd he hf hg hh
      go_wp2
      go_quiet (fail)
      have HM2 := hide ((unhide HM).drewN nq)
      have cw2 : (wr.drewN nq).cell? ⟨m, k, none⟩ = some (.int .u32 y) := cw
      clear cw ct HM
      generalize wr.drewN nq = W3 at *
      go_wp2
      go_quiet (first | (go_at_call 92; with_reducible exact Calls.quiet_of_same (unhide T1 _)) | (go_at_call 92; with_reducible exact Calls.quiet_of_same (unhide T2 _)) | (go_at_call 92; with_reducible exact Calls.quiet_of_same (unhide T3 _)))
      go_wp2_with fail
      refine (unhide T4 _).mono ?_
      rintro e w2 ⟨rfl, rfl⟩
      go_wp2_with fail
      refine (unhide T5 _).mono ?_
      rintro e w2 ⟨rfl, rfl⟩
      go_wp2_with fail
      refine (unhide T6 _).mono ?_
      rintro e w2 ⟨rfl, rfl⟩
      go_wp2
      go_roundw
      case rel =>
        refine ⟨k + 1, (Sha.rstep ⟨a1, b1, c1, d1, e1, f1, g1, h1⟩ q y).a, a1, b1, c1, (Sha.rstep ⟨a1, b1, c1, d1, e1, f1, g1, h1⟩ q y).e, e1, f1, g1, by omega, ?_, rfl, rfl, rfl, ?_, rfl, rfl, rfl, by go_num, ?_, hide ((unhide HM2).drewN _)⟩
        · have e1' := unhide H1
          have h2 := unhide H2
          have h3 := unhide HO
          have h4 := unhide HA
          have h5 := unhide HL
          show Value.int _ _ = Value.int _ (((((h1 + Sha.S1 e1 + Sha.ch e1 f1 g1 + q + y) % 4294967296 + (Sha.S0 a1 + Sha.maj a1 b1 c1) % 4294967296) % 4294967296 : Nat)) : Int)
          rw [← e1'.1, ← e1'.2, ← h2.1, ← h2.2]
          congr 1
          try simp only [IntKind.wrap_u32]
          omega
        · have e1' := unhide H1
          have h3 := unhide HO
          have h4 := unhide HA
          have h5 := unhide HL
          show Value.int _ _ = Value.int _ ((((d1 + (h1 + Sha.S1 e1 + Sha.ch e1 f1 g1 + q + y) % 4294967296) % 4294967296 : Nat)) : Int)
          rw [← e1'.1, ← e1'.2]
          congr 1
          try simp only [IntKind.wrap_u32]
          omega
        · exact hide (unhide HN)
      case measure => simp [RowKit.intOf]; omega
    · have hkk : k = 64 := by omega
      subst hkk
      clear hk hlt
      have HZ := hide (unhide HM).res
      have HI : Hid (R8 (su s ⟨a1, b1, c1, d1, e1, f1, g1, h1⟩ 0) w wr w.heap.size (St8 s)) := ⟨⟨rfl, fun j hj => by rw [St8_at s j hj]; rfl⟩, (unhide HM).st, Nat.le_refl _, (unhide HM).bel⟩
      have HO := hide hok
      clear hok HM
      go_wp2
      go_loopw [114] (fun i wr2 => ∃ (k : Nat) (ts : Array Value), k ≤ 8 ∧ i = .int .i64 k ∧ Hid (R8 (su s ⟨a1, b1, c1, d1, e1, f1, g1, h1⟩ k) w wr2 w.heap.size ts) ∧ Hid (wr2.heap[w.heap.size + 1 + 1]? = some (.cells #[.int .u32 0, .int .u32 0, .int .u32 0, .int .u32 0, .int .u32 0, .int .u32 0, .int .u32 0, .int .u32 0] 90 (0, 0)))) (fun i _ => 8 - (RowKit.intOf i).toNat)
      case atStart => exact ⟨0, _, by omega, rfl, HI, HZ⟩
      case round =>
        clear HI HZ
        obtain ⟨k, ts, hk, rfl, HI, HZ⟩ := hrel
        by_cases hlt : k < 8
        · have hix := run_index_u32 #[.int .u32 a1, .int .u32 b1, .int .u32 c1, .int .u32 d1, .int .u32 e1, .int .u32 f1, .int .u32 g1, .int .u32 h1] k (fld ⟨a1, b1, c1, d1, e1, f1, g1, h1⟩ k) wr hlt (St8_at ⟨a1, b1, c1, d1, e1, f1, g1, h1⟩ k hlt)
          have hc := (unhide HI).cell hlt
          rw [su_here] at hc
          have hfz := (unhide HI).frozen k
          have hki : (k : Int) < 8 := by omega
          have HN := hide (fun v hv => (unhide HI).upd0 (f' := su s ⟨a1, b1, c1, d1, e1, f1, g1, h1⟩ (k + 1)) v hv hlt (fun j hj => su_other s _ k j hj))
          have HS8 : Hid (su s ⟨a1, b1, c1, d1, e1, f1, g1, h1⟩ (k + 1) k = (fld s k + fld ⟨a1, b1, c1, d1, e1, f1, g1, h1⟩ k) % 4294967296) := su_same _ _ _
          have hx := fld_lt (unhide HS) k
          have hy := fld_lt (unhide HO) k
          generalize fld ⟨a1, b1, c1, d1, e1, f1, g1, h1⟩ k = y at *
          generalize fld s k = x at *
          go_wp2
          go_roundw
          case rel =>
            refine ⟨k + 1, _, by omega, by go_num, hide (unhide HN _ ?_), hide (heap_set (unhide HZ) (by omega))⟩
            rw [unhide HS8]
            congr 1
          case measure => simp [RowKit.intOf]; omega
        · have hkk : k = 8 := by omega
          subst hkk
          have h6 := (unhide HI).row
          have h1 := (unhide HI).is.size
          have h4 := unhide HZ
          have hu := Try.underlying90
          have hi : (Try.prog.info? 90).map (·.size) = some ts.size := by rw [info8, h1]
          have hT : ts = St8 (Sha.add s (Sha.rnd b s 64)) := by
            refine Is32.eq8 ⟨h1, fun j hj => ?_⟩
            rw [(unhide HI).is.at' j hj, fld_add s _ j hj, unhide HR]
            unfold su
            rw [if_pos hj]
          go_wp2_with (first | (refine wpList_load_row rfl 90 (.tmp 3) rfl w.heap.size rfl 90 ts (0, 0) _ h6 hu rfl hi ?_) | (refine wpList_store_row rfl 90 (.tmp 6) (.tmp 125) rfl (w.heap.size + 1 + 1) ts rfl rfl 90 #[.int .u32 0, .int .u32 0, .int .u32 0, .int .u32 0, .int .u32 0, .int .u32 0, .int .u32 0, .int .u32 0] h4 hi (by rw [h1]; rfl) (unhide HI).is.one ?_))
          refine bodyPost_ret (results_cell_row rfl _ _ (w.heap.size + 1 + 1) 90 ts (0, 0) _ rfl (heapRow_same h4 ts) hu rfl hi) rfl ?_
          exact ⟨by rw [hT], belowRow (unhide HI).bel (by omega) _⟩
end
end Go.Proofs.Ytopabadnbelegaa.D
