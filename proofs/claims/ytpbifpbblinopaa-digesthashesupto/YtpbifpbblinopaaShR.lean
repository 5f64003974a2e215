/- A round, as the walks have it. -/
import Derived.Test.YtpbifpbblinopaaShS
namespace Go.Proofs.Ytpbifpbblinopaa
open Go.RowKit

/-- the words of a state are words -/
structure Ok (s : Sha.St) : Prop where
  a : s.a < 4294967296
  b : s.b < 4294967296
  c : s.c < 4294967296
  d : s.d < 4294967296
  e : s.e < 4294967296
  f : s.f < 4294967296
  g : s.g < 4294967296
  h : s.h < 4294967296
theorem Ok.start : Ok Sha.start := by constructor <;> decide
theorem Ok.step {s : Sha.St} (h : Ok s) (k w : Nat) : Ok (Sha.rstep s k w) := ⟨Nat.mod_lt _ (by decide), h.a, h.b, h.c, Nat.mod_lt _ (by decide), h.e, h.f, h.g⟩
theorem Ok.rnd {s : Sha.St} (h : Ok s) (b : Nat → Nat) (n : Nat) : Ok (Sha.rnd b s n) := by
  induction n with
  | zero => exact h
  | succ n ih => exact ih.step _ _
theorem Ok.add (s t : Sha.St) : Ok (Sha.add s t) := ⟨Nat.mod_lt _ (by decide), Nat.mod_lt _ (by decide), Nat.mod_lt _ (by decide), Nat.mod_lt _ (by decide), Nat.mod_lt _ (by decide), Nat.mod_lt _ (by decide), Nat.mod_lt _ (by decide), Nat.mod_lt _ (by decide)⟩
theorem Ok.mix (s : Sha.St) (l : List UInt8) : Ok (Sha.mix s l) := Ok.add _ _
/-- what the walk's parts of a round are, in words -/
structure Rd1 (e f g : Nat) (A B C D E F : Nat) : Prop where
  p1 : bits .xor .u32 ((Sha.rot e 6 : Nat) : Int) ((Sha.rot e 11 : Nat) : Int) = (A : Int)
  p2 : bits .xor .u32 (A : Int) ((Sha.rot e 25 : Nat) : Int) = (B : Int)
  p3 : bits .and .u32 (e : Int) (f : Int) = (C : Int)
  p4 : bits .xor .u32 IntKind.u32.max (e : Int) = (D : Int)
  p5 : bits .and .u32 (D : Int) (g : Int) = (E : Int)
  p6 : bits .xor .u32 (C : Int) (E : Int) = (F : Int)
theorem Rd1.make (e f g : Nat) (he : e < 4294967296) (hf : f < 4294967296) (hg : g < 4294967296) : ∃ A B C D E F : Nat, Rd1 e f g A B C D E F ∧ Hid (B = Sha.S1 e ∧ F = Sha.ch e f g) := by
  refine ⟨Sha.rot e 6 ^^^ Sha.rot e 11, Sha.S1 e, e &&& f, 4294967295 - e, (4294967295 - e) &&& g, Sha.ch e f g, ⟨x32 _ _ (Sha.rot_lt _ _ he) (Sha.rot_lt _ _ he), x32 _ _ (xor_lt (Sha.rot_lt _ _ he) (Sha.rot_lt _ _ he)) (Sha.rot_lt _ _ he), n32 _ _ he hf, not32 _ he, n32 _ _ (by omega) hg, x32 _ _ (and_lt he) (and_lt (by omega))⟩, rfl, rfl⟩
structure Rd2 (a b c : Nat) (A B C D E G F : Nat) : Prop where
  p1 : bits .xor .u32 ((Sha.rot a 2 : Nat) : Int) ((Sha.rot a 13 : Nat) : Int) = (A : Int)
  p2 : bits .xor .u32 (A : Int) ((Sha.rot a 22 : Nat) : Int) = (B : Int)
  p3 : bits .and .u32 (a : Int) (b : Int) = (C : Int)
  p4 : bits .and .u32 (a : Int) (c : Int) = (D : Int)
  p5 : bits .and .u32 (b : Int) (c : Int) = (E : Int)
  p6 : bits .xor .u32 (C : Int) (D : Int) = (G : Int)
  p7 : bits .xor .u32 (G : Int) (E : Int) = (F : Int)
theorem Rd2.make (a b c : Nat) (ha : a < 4294967296) (hb : b < 4294967296) (hc : c < 4294967296) : ∃ A B C D E G F : Nat, Rd2 a b c A B C D E G F ∧ Hid (B = Sha.S0 a ∧ F = Sha.maj a b c) := by
  refine ⟨Sha.rot a 2 ^^^ Sha.rot a 13, Sha.S0 a, a &&& b, a &&& c, b &&& c, (a &&& b) ^^^ (a &&& c), Sha.maj a b c, ⟨x32 _ _ (Sha.rot_lt _ _ ha) (Sha.rot_lt _ _ ha), x32 _ _ (xor_lt (Sha.rot_lt _ _ ha) (Sha.rot_lt _ _ ha)) (Sha.rot_lt _ _ ha), n32 _ _ ha hb, n32 _ _ ha hc, n32 _ _ hb hc, x32 _ _ (and_lt ha) (and_lt ha), x32 _ _ (xor_lt (and_lt ha) (and_lt ha)) (and_lt hb)⟩, rfl, rfl⟩
end Go.Proofs.Ytpbifpbblinopaa
