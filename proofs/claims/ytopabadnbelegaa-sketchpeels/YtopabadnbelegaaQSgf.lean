/- Segments: Valid of the document. Written by mksge.py. -/
import Derived.Test.YtopabadnbelegaaQSge
namespace Go.Proofs.Ytopabadnbelegaa.S
open Go.RowKit Go.Lib
theorem asV {P : Program} {F : FuncId} {xs : Array Value} {w : World} {v : Value} {R : World → Prop} (h : Calls P F xs w fun e w' => e = .returned v ∧ R w') : Calls P F xs w fun e w' => ∃ y, e = .returned y ∧ (y = v ∧ R w') := h.mono fun _ _ ⟨h1, h2⟩ => ⟨v, h1, rfl, h2⟩
end Go.Proofs.Ytopabadnbelegaa.S
