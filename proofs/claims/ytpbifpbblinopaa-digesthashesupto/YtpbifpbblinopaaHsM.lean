/- SHA-256 piece by piece: plain lists, of no program. -/
import Derived.Test.YtpbifpbblinopaaSh
namespace Go.Proofs.Ytpbifpbblinopaa.Sha
/-- what fills no block yet -/
def tail (l : List UInt8) : List UInt8 := l.drop (64 * (l.length / 64))
theorem tail_length (l : List UInt8) : (tail l).length = l.length % 64 := by
  rw [tail, List.length_drop]; omega
theorem tail_nil : tail [] = [] := rfl
theorem absorb_nil : absorb [] = start := rfl
theorem blocks_add (n m : Nat) (s : St) (l : List UInt8) : blocks (n + m) s l = blocks m (blocks n s l) (l.drop (64 * n)) := by
  induction n generalizing s l with
  | zero => simp [blocks]
  | succ n ih =>
    rw [show n + 1 + m = (n + m) + 1 from by omega]
    show blocks (n + m) (mix s (l.take 64)) (l.drop 64) = blocks m (blocks n (mix s (l.take 64)) (l.drop 64)) (l.drop (64 * (n + 1)))
    rw [ih, List.drop_drop]
    congr 1
    congr 1
    omega
theorem blocks_front (n : Nat) (s : St) (l x : List UInt8) (h : 64 * n ≤ l.length) : blocks n s (l ++ x) = blocks n s l := by
  induction n generalizing s l with
  | zero => rfl
  | succ n ih =>
    show blocks n (mix s ((l ++ x).take 64)) ((l ++ x).drop 64) = blocks n (mix s (l.take 64)) (l.drop 64)
    rw [List.take_append_of_le_length (by omega), List.drop_append_of_le_length (by omega), ih _ _ (by rw [List.length_drop]; omega)]
theorem blocks_succ (n : Nat) (s : St) (l : List UInt8) : blocks (n + 1) s l = mix (blocks n s l) ((l.drop (64 * n)).take 64) := by
  rw [blocks_add]; rfl
theorem absorb_append (l p : List UInt8) : absorb (l ++ p) = blocks ((l.length % 64 + p.length) / 64) (absorb l) (tail l ++ p) := by
  unfold absorb
  rw [List.length_append, show (l.length + p.length) / 64 = l.length / 64 + (l.length % 64 + p.length) / 64 from by omega, blocks_add]
  rw [blocks_front _ _ _ _ (by omega), List.drop_append_of_le_length (by omega)]
  rfl
theorem tail_append (l p : List UInt8) : tail (l ++ p) = (tail l ++ p).drop (64 * ((l.length % 64 + p.length) / 64)) := by
  unfold tail
  rw [← List.drop_append_of_le_length (by omega), List.drop_drop, List.length_append]
  congr 1
  omega
/-- too few for a block -/
theorem absorb_few (l p : List UInt8) (h : l.length % 64 + p.length < 64) : absorb (l ++ p) = absorb l ∧ tail (l ++ p) = tail l ++ p := by
  rw [absorb_append, tail_append, show (l.length % 64 + p.length) / 64 = 0 from by omega]
  exact ⟨rfl, by simp⟩
/-- a block, and more of them -/
theorem absorb_more (l p : List UInt8) (h : 64 ≤ l.length % 64 + p.length) :
    absorb (l ++ p) = blocks ((p.drop (64 - l.length % 64)).length / 64) (mix (absorb l) (tail l ++ p.take (64 - l.length % 64))) (p.drop (64 - l.length % 64)) ∧
    tail (l ++ p) = tail (p.drop (64 - l.length % 64)) := by
  have hl := tail_length l
  have e1 : (tail l ++ p).take 64 = tail l ++ p.take (64 - l.length % 64) := by
    rw [List.take_append, hl, List.take_of_length_le (by omega)]
  have e2 : (tail l ++ p).drop 64 = p.drop (64 - l.length % 64) := by
    rw [List.drop_append, hl, List.drop_of_length_le (by omega), List.nil_append]
  have e3 : (l.length % 64 + p.length) / 64 = (p.drop (64 - l.length % 64)).length / 64 + 1 := by
    rw [List.length_drop]; omega
  constructor
  · rw [absorb_append, e3]
    show blocks _ (mix (absorb l) ((tail l ++ p).take 64)) ((tail l ++ p).drop 64) = _
    rw [e1, e2]
  · rw [tail_append, e3, show 64 * ((p.drop (64 - l.length % 64)).length / 64 + 1) = 64 + 64 * ((p.drop (64 - l.length % 64)).length / 64) from by omega, ← List.drop_drop, e2]
    rfl
theorem fill_len (n : Nat) : (fill n).length = (119 - n % 64) % 64 + 9 := by
  simp [fill, be8]
theorem whole_mod (l : List UInt8) : (l ++ fill l.length).length % 64 = 0 := by
  rw [List.length_append, fill_len]; omega
theorem told_length (s : St) : (told s).length = 32 := rfl
theorem of_length (l : List UInt8) : (of l).length = 32 := rfl
end Go.Proofs.Ytpbifpbblinopaa.Sha
