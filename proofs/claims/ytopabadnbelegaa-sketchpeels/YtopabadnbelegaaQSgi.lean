/- Segments: Form and Sum of both sides. Written by mksgi.py. -/
import Derived.Test.YtopabadnbelegaaQSgh
namespace Go.Proofs.Ytopabadnbelegaa.S
open Go.RowKit Go.Lib
theorem formB_size {x : Nat} {l : List En} (hs : Short l) (hm : l.length ≤ 1099511627776) : (formB x l).size ≤ 140737488351232 := by
  have e : (formB x l).size = (formL x l).length := List.size_toArray
  have h1 := ensB_len l hs
  have h2 := uintB_len l.length
  rw [e]
  unfold formL
  simp only [List.length_cons, List.length_append, W.fixB_length]
  omega
end Go.Proofs.Ytopabadnbelegaa.S
