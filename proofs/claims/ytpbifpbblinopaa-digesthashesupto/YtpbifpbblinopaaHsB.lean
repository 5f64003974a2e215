/- New variables whose world is a letter; a Hash that is made. -/
import Derived.Test.YtpbifpbblinopaaHsW
import Derived.Great.Walk
namespace Go.Proofs.Ytpbifpbblinopaa
open Go.RowKit

theorem zero_run {P : Program} {t : TypeId} {cells : Array Value} (hz : ((P.info? t).bind (·.zero)).map (·.cells) = some cells) (w : World) : ∃ z, (zeroValue t).run P w = .ok z w ∧ z.cells = cells := by
  cases hq : P.info? t with
  | none => simp [hq] at hz
  | some i =>
    cases hz' : i.zero with
    | none => simp [hq, hz'] at hz
    | some z => exact ⟨z, by simp [zeroValue, typeInfo, hq, hz'], by simpa [hq, hz'] using hz⟩
/-- a new variable -/
theorem wpList_alloc_row {P : Program} {ops : Array Oper} {rest : List Oper} {o : Oper} {a : Act} {w : World} {Q : Exit → Act → World → Prop} (hg : o.guard = none) (t : TypeId) (ho : o.op = .alloc t) (d : Option Tmp) (hd : o.dst = d)
    (N : Nat) (hN : w.heap.size = N) (cells : Array Value) (hz : ((P.info? t).bind (·.zero)).map (·.cells) = some cells)
    (h : ∀ w', Hid (w'.heap[N]? = some (.cells cells t (0, 0))) → Hid (Below N w w') → Hid (w'.heap.size = N + 1) → wpList P ops Q rest (a.put d (.pointer (some ⟨N, 0, none⟩))) w') : wpList P ops Q (o :: rest) a w := by
  subst hd hN
  obtain ⟨z, h1, h2⟩ := zero_run hz w
  refine wpList_plain hg fun K hK => ?_
  unfold Oper.wp execOp
  simp only [ho, Sem.run_bind, Instr.alloc, h1, newVar, newRow, run_newObj_alloc, Sem.run_pure, Result.andThen_ok, h2]
  exact hK _ _ (h _ (heap_alloc_new _ _) ((Below.refl _ _).alloc (Nat.le_refl _) _) (hide (by simp)))
/-- a new variable that holds a value -/
theorem wpList_box_row {P : Program} {ops : Array Oper} {rest : List Oper} {o : Oper} {a : Act} {w : World} {Q : Exit → Act → World → Prop} (hg : o.guard = none) (t : TypeId) (x : Operand) (ho : o.op = .box t x) (d : Option Tmp) (hd : o.dst = d)
    (N : Nat) (hN : w.heap.size = N) (cells : Array Value) (hx : (a.eval x).cells = cells)
    (h : ∀ w', Hid (w'.heap[N]? = some (.cells cells t (0, 0))) → Hid (Below N w w') → Hid (w'.heap.size = N + 1) → wpList P ops Q rest (a.put d (.pointer (some ⟨N, 0, none⟩))) w') : wpList P ops Q (o :: rest) a w := by
  subst hN
  exact Go.Great.wpList_boxTo hg t x ho d hd _ rfl cells hx (h _ (heap_alloc_new _ _) ((Below.refl _ _).alloc (Nat.le_refl _) _) (hide (by simp)))
theorem dWrite (h : Nat) (l p : List UInt8) (ao : Option Addr) (cap : Nat) (w : World) (hh : Hs w h l) (hsrc : Src w h p ao) (hcap : p.length ≤ cap)
    (hb : l.length + p.length ≤ 4611686018427387904) :
    Calls Try.prog 27 #[.pointer (some ⟨h, 0, none⟩), .slice ao p.length cap] w fun e w' => e = .returned (.tuple #[]) ∧ Hs w' h (l ++ p) ∧ U1 w w' h := by
  by_cases hf : l.length % 64 + p.length < 64
  · exact dWriteFew h l p ao cap w hh hsrc hb hf
  · obtain ⟨g, o, rfl, h1, h2⟩ := hsrc (by omega)
    exact dWriteMore h g o l p cap w hh h1 h2 hb hcap (by omega)
theorem infoH : (Try.prog.info? 69).map (·.size) = some 73 := by kernel_rfl
def Z73 : Array Value := (List.replicate 8 (Value.int .u32 0) ++ (List.replicate 64 (Value.int .u8 0) ++ [Value.int .u64 0])).toArray
theorem zeroH : ((Try.prog.info? 69).bind (·.zero)).map (·.cells) = some Z73 := by kernel_rfl
def Z32 : Array Value := (List.replicate 32 (.int .u8 0)).toArray
theorem zeroS : ((Try.prog.info? 38).bind (·.zero)).map (·.cells) = some Z32 := by kernel_rfl
def Z512 : Array Value := (List.replicate 512 (.int .u8 0)).toArray
theorem zeroP : ((Try.prog.info? 70).bind (·.zero)).map (·.cells) = some Z512 := by kernel_rfl
theorem Hs.of_start {u : World} {h : Nat} (k : u.heap[h]? = some (.cells (HC Sha.start (List.replicate 64 0) 0).toArray 69 (0, 0))) : Hs u h [] :=
  ⟨List.replicate 64 0, ⟨k, by simp⟩, rfl⟩
set_option maxRecDepth 100000 in
theorem dNew (w : World) : Calls Try.prog 25 #[] w fun e w' => ∃ h, e = .returned (.pointer (some ⟨h, 0, none⟩)) ∧ w.heap.size ≤ h ∧ Hs w' h [] ∧ Below w.heap.size w w' := by
  go_enter Try.func25, Try.ntmps25
  go_wp2_with fail
  refine (dStart _).mono ?_
  rintro e w1 ⟨rfl, hb⟩
  have HB := hide hb
  clear hb
  go_wp2_with (first | (refine wpList_buildTo (by rfl) 69 #[(0, .tmp 1)] (by rfl) (some 2) (by rfl) (HC Sha.start (List.replicate 64 0) 0).toArray (by kernel_rfl) ?_) | (refine wpList_box_row (by rfl) 69 (.tmp 2) (by rfl) (some 3) (by rfl) w1.heap.size rfl (HC Sha.start (List.replicate 64 0) 0).toArray (by rfl) ?_; intro W2 HR2 HB2 HS2))
  go_ret
  exact ⟨w1.heap.size, rfl, (unhide HB).size, Hs.of_start (unhide HR2), (unhide HB).trans ((unhide HB2).mono (unhide HB).size)⟩
end Go.Proofs.Ytpbifpbblinopaa
