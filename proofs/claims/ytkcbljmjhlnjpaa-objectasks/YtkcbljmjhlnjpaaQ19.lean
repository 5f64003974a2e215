/- Put together out of Ofx, Oa, Ob, Oc, Od. -/
import Derived.Test.YtkcbljmjhlnjpaaQ03
import Derived.Test.YtkcbljmjhlnjpaaQ13
import Derived.Test.YtkcbljmjhlnjpaaQ14
import Derived.Test.YtkcbljmjhlnjpaaQ16
import Derived.Test.YtkcbljmjhlnjpaaQ18
import Derived.WalkKit
import Derived.WalkLawsBesides
import Derived.ProofKit
import Derived.OpenShut
import Derived.Handy
import Derived.ArgAppend
import Derived.Lib.AppendStr
import Derived.Laws.BitsAllLaws
import Derived.Laws.IdiomStrings
namespace Go.Proofs.Ytkcbljmjhlnjpaa.W
open Go.RowKit Go.Lib
/-- the lowest n bytes, the highest first -/
def fixB (v n : Nat) : List UInt8 := (List.range n).map fun i => UInt8.ofNat (v / 256 ^ (n - 1 - i))
theorem fixB_length (v n : Nat) : (fixB v n).length = n := by simp [fixB]
theorem fixB_take (v n k : Nat) (h : k < n) : (fixB v n).take (k + 1) = (fixB v n).take k ++ [UInt8.ofNat (v / 256 ^ (n - 1 - k))] := by
  rw [List.take_succ_eq_append_getElem (by rw [fixB_length]; exact h)]
  simp [fixB]

theorem byte_at (v m : Nat) : UInt8.ofNat (((v : Int) / 2 ^ (8 * m) % 256).toNat) = UInt8.ofNat (v / 256 ^ m) := by
  have e : ((v : Int) / 2 ^ (8 * m) % 256).toNat = v / 256 ^ m % 256 := by
    have h1 : ((2 : Int) ^ (8 * m)) = ((2 ^ (8 * m) : Nat) : Int) := by simp
    rw [h1, Nat.pow_mul]
    have h2 : ((v : Int) / ((2 ^ 8) ^ m : Nat) % 256) = ((v / (2 ^ 8) ^ m % 256 : Nat) : Int) := by
      rw [Int.natCast_emod, Int.natCast_ediv]; rfl
    rw [h2]; rfl
  rw [e]
  apply UInt8.toNat.inj
  simp
theorem byte_rng (x : Int) : 0 ≤ x % 256 ∧ x % 256 < 256 := by omega
set_option maxHeartbeats 400000 in
theorem wLowest (a r : Nat) (bs : List UInt8) (v : Nat) (n : Nat) (w : World) (h : Wr w a r bs) (hn : n ≤ 8) (hl : bs.length + 8 ≤ 140737488355328) :
    Calls Try.prog 98 #[.pointer (some ⟨a, 0, none⟩), .int .u64 v, .int .i64 n] w fun e w' => e = .returned (.tuple #[]) ∧ ∃ r', Put w w' a r r' (bs ++ fixB v n) := by
  go_enter Try.func98, Try.ntmps98
  go_wp2
  go_loopw [8] (fun i wr => ∃ k r' : Nat, k ≤ n ∧ i = .int .i64 k ∧ Put w wr a r r' (bs ++ (fixB v n).take k)) (fun i _ => n - (RowKit.intOf i).toNat)
  case atStart => exact ⟨0, r, Nat.zero_le _, rfl, by simpa using Put.refl h⟩
  case round =>
    obtain ⟨k, r1, hk, rfl, hp⟩ := hrel
    by_cases hlt : k < n
    · have H := hide hp
      clear hp
      go_wp2_with fail
      refine (wByte a r1 _ _ _ (unhide H).1 (byte_rng _).1 (byte_rng _).2 ?_).mono ?_
      · have := fixB_length v n; simp; omega
      rintro e w1 ⟨rfl, hp1⟩
      have H1 := hide hp1
      clear hp1
      go_wp2
      go_roundw
      case rel =>
        obtain ⟨r2, hp2⟩ := unhide H1
        refine ⟨k + 1, r2, by omega, by go_num, ?_⟩
        rw [byte_at, List.append_assoc, ← fixB_take v n k hlt] at hp2
        exact (unhide H).trans hp2
      case measure => simp [RowKit.intOf]; omega
    · have H := hide hp
      clear hp
      go_wp2
      go_returns
      have hkn : k = n := by omega
      subst hkn
      have hp := unhide H
      rw [List.take_of_length_le (by rw [fixB_length]; exact Nat.le_refl _)] at hp
      exact ⟨rfl, r1, hp⟩
theorem wLowestI (a r : Nat) (bs : List UInt8) (x : Int) (n : Int) (w : World) (h : Wr w a r bs) (hx : 0 ≤ x) (h0 : 0 ≤ n) (hn : n ≤ 8) (hl : bs.length + 8 ≤ 140737488355328) :
    Calls Try.prog 98 #[.pointer (some ⟨a, 0, none⟩), .int .u64 x, .int .i64 n] w fun e w' => e = .returned (.tuple #[]) ∧ ∃ r', Put w w' a r r' (bs ++ fixB x.toNat n.toNat) := by
  obtain ⟨X, rfl⟩ := Int.eq_ofNat_of_zero_le hx
  obtain ⟨m, rfl⟩ := Int.eq_ofNat_of_zero_le h0
  exact wLowest a r bs X m w h (by omega) hl
theorem pow8 (m : Nat) : ((2 : Int) ^ (8 * m)) = ((256 ^ m : Nat) : Int) := by
  have e : (256 : Nat) ^ m = 2 ^ (8 * m) := (Nat.pow_mul 2 8 m).symm
  rw [e]; simp
theorem wFixed (a r : Nat) (bs : List UInt8) (v : Nat) (n : Int) (w : World) (h : Wr w a r bs) (hn0 : 1 ≤ n) (hn1 : n ≤ 8) (hv : v < 256 ^ n.toNat) (hl : bs.length + 8 ≤ 140737488355328) :
    Calls Try.prog 59 #[.pointer (some ⟨a, 0, none⟩), .int .u64 v, .int .i64 n] w fun e w' => e = .returned (.int .i64 0) ∧ ∃ r', Put w w' a r r' (bs ++ fixB v n.toNat) := by
  have H := hide h
  clear h
  obtain ⟨m, rfl⟩ := Int.eq_ofNat_of_zero_le (by omega : 0 ≤ n)
  have hz' : ((v : Int) / 2 ^ (8 * m) != 0) = false := by
    have hz : (v : Int) / 2 ^ (8 * m) = 0 := by
      rw [pow8, ← Int.natCast_ediv, Nat.div_eq_of_lt (by simpa using hv)]; rfl
    rw [hz]; rfl
  clear hv
  go_enter Try.func59, Try.ntmps59
  go_wp2_with fail
  refine (wLowestI a r bs _ _ _ (unhide H) (by omega) (by omega) (by omega) hl).mono ?_
  rintro e w1 ⟨rfl, hp⟩
  have H1 := hide hp
  clear hp
  go_wp2
  go_ret
  exact ⟨rfl, unhide H1⟩
end Go.Proofs.Ytkcbljmjhlnjpaa.W
namespace Go.Proofs.Ytkcbljmjhlnjpaa
open Go.RowKit Go.Lib
/-- an object -/
structure Ot where
  key : ByteArray
  st : St
def eB : ByteArray := ⟨#[]⟩
def Ot.none : Ot := ⟨eB, St.none⟩
/-- what is wrong with a key -/
def keyE (k : ByteArray) : Int := if 1 ≤ k.size ∧ k.size ≤ 32 then 0 else 130
/-- what is wrong with an object -/
noncomputable def ckE (o : Ot) : Int := if keyE o.key = 0 then (if (encT o.st).2 = 0 then (if (encT o.st).1.size ≤ 280 then 0 else 82) else (encT o.st).2) else keyE o.key
/-- a key's segment -/
def plN (k : ByteArray) : Nat := ((D.Sha.of (75 :: k.data.toList)).getD 0 0).toNat * 16 + ((D.Sha.of (75 :: k.data.toList)).getD 1 0).toNat / 16
theorem plN_lt (k : ByteArray) : plN k < 4096 := by
  unfold plN
  have h1 := ((D.Sha.of (75 :: k.data.toList)).getD 0 0).toNat_lt
  have h2 := ((D.Sha.of (75 :: k.data.toList)).getD 1 0).toNat_lt
  omega
theorem keyE_zero {k : ByteArray} : keyE k = 0 ↔ 1 ≤ k.size ∧ k.size ≤ 32 := by
  unfold keyE
  by_cases h : 1 ≤ k.size ∧ k.size ≤ 32
  · simp [h]
  · rw [if_neg h]; constructor
    · intro h2; cases h2
    · intro h2; exact absurd h2 h
theorem size_st (s : St) : (⟨(stB s).toArray⟩ : ByteArray).size = (stB s).length := List.size_toArray
theorem ck_zero {o : Ot} : ckE o = 0 ↔ (1 ≤ o.key.size ∧ o.key.size ≤ 32) ∧ SOk o.st ∧ (stB o.st).length ≤ 280 := by
  unfold ckE
  by_cases h1 : keyE o.key = 0
  · rw [if_pos h1]
    by_cases h2 : SOk o.st
    · rw [encT_ok h2, if_pos rfl, size_st]
      by_cases h3 : (stB o.st).length ≤ 280
      · rw [if_pos h3]; exact ⟨fun _ => ⟨keyE_zero.1 h1, h2, h3⟩, fun _ => rfl⟩
      · rw [if_neg h3]; exact ⟨fun h => (by cases h), fun h => absurd h.2.2 h3⟩
    · rw [encT_no h2, if_neg (by decide)]; exact ⟨fun h => (by cases h), fun h => absurd h.2.1 h2⟩
  · rw [if_neg h1]; exact ⟨fun h => absurd h h1, fun h => absurd (keyE_zero.2 h.1) h1⟩
theorem ck_no110 {o : Ot} : ckE o = 110 → ¬ SOk o.st := by
  unfold ckE
  intro h h2
  rw [encT_ok h2] at h
  by_cases h1 : keyE o.key = 0
  · rw [if_pos h1, if_pos rfl] at h
    split at h <;> cases h
  · rw [if_neg h1] at h
    unfold keyE at h
    split at h <;> cases h
/-- the state's bytes of an object that may be -/
theorem ck_bytes {o : Ot} (h : ckE o = 0) : encT o.st = (⟨(stB o.st).toArray⟩, 0) := encT_ok (ck_zero.1 h).2.1
/-- the form -/
def formB (o : Ot) : ByteArray := if o.st.seen.length = 0 then eB else ⟨(79 :: (textB o.key ++ stB o.st)).toArray⟩
noncomputable def formV (o : Ot) : ByteArray × Int := if ckE o = 0 then (formB o, 0) else (eB, ckE o)
def cutR (s : ByteArray) (n : Int) : ByteArray × Int := if 1 ≤ n ∧ n ≤ 32 then (D.cutS s n.toNat, 0) else (eB, 1)
noncomputable def sumV (o : Ot) (n : Int) : ByteArray × Int := if ckE o = 0 then (if o.st.seen.length = 0 then (eB, (cutR eB n).2) else cutR (formB o) n) else (eB, ckE o)
/-- a cell's key -/
def cellK (k : ByteArray) : ByteArray := ⟨(W.fixB (plN k) 2 ++ k.data.toList).toArray⟩
noncomputable def packV (o : Ot) : ByteArray × ByteArray × Int := if ckE o = 0 then (if o.st.seen.length = 0 then (eB, eB, 110) else (cellK o.key, ⟨(stB o.st).toArray⟩, 0)) else (eB, eB, ckE o)
noncomputable def unpO (k v : ByteArray) : Ot := ⟨k.extract 2 k.size, (decT v).1⟩
open Classical in
noncomputable def unpV (k v : ByteArray) : Ot × Int := if 2 ≤ k.size ∧ (decT v).2 = 0 ∧ packV (unpO k v) = (k, v, 0) then (unpO k v, 0) else (Ot.none, 4)
open Classical in
noncomputable def madeV (k : ByteArray) (s : St) (e : Int) : Ot × Int := if e = 0 ∧ ckE ⟨k, s⟩ = 0 then (⟨k, s⟩, 0) else (Ot.none, if e = 0 then ckE ⟨k, s⟩ else e)
open Classical in
noncomputable def mergeV (a b : Ot) : Ot × Int := if ckE a = 0 then (if ckE b = 0 then (if a.key = b.key then madeV a.key (joinV a.st b.st).1 (joinV a.st b.st).2 else (Ot.none, 1)) else (Ot.none, ckE b)) else (Ot.none, ckE a)
open Classical in
noncomputable def putOV (o : Ot) (ctx : List (Nat × Nat)) (x : Nat) (val : ByteArray) (gone : Bool) : Ot × (Nat × Nat) × Int :=
  if ckE o = 0 then (if (madeV o.key (putV o.st ctx x val gone).1 (putV o.st ctx x val gone).2.2).2 = 0 then ((madeV o.key (putV o.st ctx x val gone).1 (putV o.st ctx x val gone).2.2).1, (putV o.st ctx x val gone).2.1, 0) else (Ot.none, (0, 0), (madeV o.key (putV o.st ctx x val gone).1 (putV o.st ctx x val gone).2.2).2)) else (Ot.none, (0, 0), ckE o)
end Go.Proofs.Ytkcbljmjhlnjpaa
namespace Go.Proofs.Ytkcbljmjhlnjpaa
open Go.RowKit Go.Lib
/- objects -/
def obV (k : ByteArray) (v : Sv) (n m : Nat) : Value := .agg #[.string k, .slice v.sa n v.sc, .slice v.ba m v.bc]
def obRow (k : ByteArray) (v : Sv) (n m : Nat) : Obj := .cells #[.string k, .slice v.sa n v.sc, .slice v.ba m v.bc] 33 (0, 0)
theorem zeroOb : ((Try.prog.info? 33).bind (·.zero)).map (·.cells) = some #[.string ⟨#[]⟩, .slice none 0 0, .slice none 0 0] := by kernel_rfl
theorem obInfo : (Try.prog.info? 33).map (·.size) = some 3 := by kernel_rfl
theorem obUnd : Try.prog.underlying 33 = some (.struct (match Try.prog.underlying 33 with | some (.struct fs) => fs | _ => #[])) := by kernel_rfl
theorem ob_one (k : ByteArray) (a b : Option Addr) (n m c d : Nat) : (#[.string k, .slice a n c, .slice b m d] : Array Value).all (·.oneCell') = true := by
  rw [Array.all_eq_true']
  intro v hv
  simp only [List.mem_toArray, List.mem_cons, List.not_mem_nil, or_false] at hv
  rcases hv with rfl | rfl | rfl <;> rfl
theorem box3 {W : World} {N : Nat} {c0 c1 c2 : Value} {t : TypeId} (h : W.heap[N]? = some (.cells #[c0, c1, c2] t (0, 0))) : W.cell? ⟨N, 0, none⟩ = some c0 ∧ W.cell? ⟨N, 1, none⟩ = some c1 ∧ W.cell? ⟨N, 2, none⟩ = some c2 := by
  refine ⟨?_, ?_, ?_⟩ <;> simp [World.cell?, h]
theorem ob_cells {W : World} {N n m : Nat} {k : ByteArray} {v : Sv} (h : W.heap[N]? = some (obRow k v n m)) : W.cell? ⟨N, 0, none⟩ = some (.string k) ∧ W.cell? ⟨N, 1, none⟩ = some (.slice v.sa n v.sc) ∧ W.cell? ⟨N, 2, none⟩ = some (.slice v.ba m v.bc) := box3 h
theorem wpList_alloc_ob {ops : Array Oper} {rest : List Oper} {o : Oper} {a : Act} {w : World} {Q : Exit → Act → World → Prop} (hg : o.guard = none) (ho : o.op = .alloc 33) (d : Option Tmp) (hd : o.dst = d) (N : Nat) (hN : N = w.heap.size)
    (h : ∀ w', Hid (w'.heap[N]? = some (obRow ⟨#[]⟩ Sv.none 0 0)) → Hid (Below N w w') → Hid (w'.heap.size = N + 1) → wpList Try.prog ops Q rest (a.put d (.pointer (some ⟨N, 0, none⟩))) w') : wpList Try.prog ops Q (o :: rest) a w :=
  wpList_alloc_row hg _ ho d hd N hN.symm _ zeroOb h
theorem wpList_store_ob {ops : Array Oper} {rest : List Oper} {o : Oper} {a : Act} {w : World} {Q : Exit → Act → World → Prop} (hgd : o.guard = none) (x y : Operand) (ho : o.op = .store 33 x y) (g : Nat) (k : ByteArray) (v : Sv) (n m : Nat) (hx : a.eval x = .pointer (some ⟨g, 0, none⟩)) (hy : a.eval y = obV k v n m)
    (k0 : ByteArray) (v0 : Sv) (n0 m0 : Nat) (hg : w.heap[g]? = some (obRow k0 v0 n0 m0))
    (h : ∀ w', Hid (w'.heap[g]? = some (obRow k v n m)) → Hid (w' = w.setRow g #[.string k, .slice v.sa n v.sc, .slice v.ba m v.bc]) → wpList Try.prog ops Q rest (a.put o.dst undef) w') : wpList Try.prog ops Q (o :: rest) a w :=
  wpList_store_hid hgd _ x y ho g _ hx hy _ _ hg obInfo rfl (ob_one _ _ _ _ _ _ _) h
theorem wpList_box_ob {ops : Array Oper} {rest : List Oper} {o : Oper} {a : Act} {w : World} {Q : Exit → Act → World → Prop} (hg : o.guard = none) (x : Operand) (ho : o.op = .box 33 x) (d : Option Tmp) (hd : o.dst = d) (N : Nat) (hN : N = w.heap.size) (k : ByteArray) (v : Sv) (n m : Nat) (hx : a.eval x = obV k v n m)
    (h : ∀ w', Hid (w'.heap[N]? = some (obRow k v n m)) → Hid (Below N w w') → Hid (w'.heap.size = N + 1) → wpList Try.prog ops Q rest (a.put d (.pointer (some ⟨N, 0, none⟩))) w') : wpList Try.prog ops Q (o :: rest) a w :=
  wpList_box_row hg _ x ho d hd N hN.symm _ (by rw [hx]; rfl) h
/-- an object in a variable -/
structure Lo (W : World) (b : Nat) (o : Ot) (v : Sv) (n m : Nat) : Prop extends Sx W o.st v n m where
  box : W.heap[b]? = some (obRow o.key v n m)
theorem Lo.below {W W' : World} {b : Nat} {o : Ot} {v : Sv} {n m : Nat} (h : Lo W b o v n m) (hb : Below W.heap.size W W') : Lo W' b o v n m := ⟨h.toSx.below hb, box_below h.box hb⟩
theorem Lo.cells {W : World} {b : Nat} {o : Ot} {v : Sv} {n m : Nat} (h : Lo W b o v n m) : W.cell? ⟨b, 0, none⟩ = some (.string o.key) ∧ W.cell? ⟨b, 1, none⟩ = some (.slice v.sa n v.sc) ∧ W.cell? ⟨b, 2, none⟩ = some (.slice v.ba m v.bc) := ob_cells h.box
/- cells -/
def ceRow (k x : ByteArray) : Obj := .cells #[.string k, .string x] 40 (0, 0)
theorem zeroCe : ((Try.prog.info? 40).bind (·.zero)).map (·.cells) = some #[.string ⟨#[]⟩, .string ⟨#[]⟩] := by kernel_rfl
theorem ceInfo : (Try.prog.info? 40).map (·.size) = some 2 := by kernel_rfl
theorem ceUnd : Try.prog.underlying 40 = some (.struct (match Try.prog.underlying 40 with | some (.struct fs) => fs | _ => #[])) := by kernel_rfl
theorem ce_one (k x : ByteArray) : (#[.string k, .string x] : Array Value).all (·.oneCell') = true := by
  rw [Array.all_eq_true']
  intro v hv
  simp only [List.mem_toArray, List.mem_cons, List.not_mem_nil, or_false] at hv
  rcases hv with rfl | rfl <;> rfl
theorem ce_cells {W : World} {N : Nat} {k x : ByteArray} (h : W.heap[N]? = some (ceRow k x)) : W.cell? ⟨N, 0, none⟩ = some (.string k) ∧ W.cell? ⟨N, 1, none⟩ = some (.string x) := box2 h
theorem wpList_alloc_ce {ops : Array Oper} {rest : List Oper} {o : Oper} {a : Act} {w : World} {Q : Exit → Act → World → Prop} (hg : o.guard = none) (ho : o.op = .alloc 40) (d : Option Tmp) (hd : o.dst = d) (N : Nat) (hN : N = w.heap.size)
    (h : ∀ w', Hid (w'.heap[N]? = some (ceRow ⟨#[]⟩ ⟨#[]⟩)) → Hid (Below N w w') → Hid (w'.heap.size = N + 1) → wpList Try.prog ops Q rest (a.put d (.pointer (some ⟨N, 0, none⟩))) w') : wpList Try.prog ops Q (o :: rest) a w :=
  wpList_alloc_row hg _ ho d hd N hN.symm _ zeroCe h
theorem wpList_store_ce {ops : Array Oper} {rest : List Oper} {o : Oper} {a : Act} {w : World} {Q : Exit → Act → World → Prop} (hgd : o.guard = none) (x y : Operand) (ho : o.op = .store 40 x y) (g : Nat) (k z : ByteArray) (hx : a.eval x = .pointer (some ⟨g, 0, none⟩)) (hy : a.eval y = .agg #[.string k, .string z])
    (k0 z0 : ByteArray) (hg : w.heap[g]? = some (ceRow k0 z0))
    (h : ∀ w', Hid (w'.heap[g]? = some (ceRow k z)) → Hid (w' = w.setRow g #[.string k, .string z]) → wpList Try.prog ops Q rest (a.put o.dst undef) w') : wpList Try.prog ops Q (o :: rest) a w :=
  wpList_store_hid hgd _ x y ho g _ hx hy _ _ hg ceInfo rfl (ce_one _ _) h
theorem wpList_box_ce {ops : Array Oper} {rest : List Oper} {o : Oper} {a : Act} {w : World} {Q : Exit → Act → World → Prop} (hg : o.guard = none) (x : Operand) (ho : o.op = .box 40 x) (d : Option Tmp) (hd : o.dst = d) (N : Nat) (hN : N = w.heap.size) (k z : ByteArray) (hx : a.eval x = .agg #[.string k, .string z])
    (h : ∀ w', Hid (w'.heap[N]? = some (ceRow k z)) → Hid (Below N w w') → Hid (w'.heap.size = N + 1) → wpList Try.prog ops Q rest (a.put d (.pointer (some ⟨N, 0, none⟩))) w') : wpList Try.prog ops Q (o :: rest) a w :=
  wpList_box_row hg _ x ho d hd N hN.symm _ (by rw [hx]; rfl) h
/- equality of cells -/
noncomputable def clF (i : Nat) : Field := (Try.prog.fieldsOf 40).getD i default
theorem clFs : (Try.prog.fieldsOf 40).toList = [clF 0, clF 1] := by kernel_rfl
theorem cnm0 : (clF 0).name ≠ "_" := of_decide_eq_true (by kernel_rfl)
theorem cnm1 : (clF 1).name ≠ "_" := of_decide_eq_true (by kernel_rfl)
section
variable (a b c d : ByteArray) (u : World)
theorem cpt0 : (part (clF 0).type #[.string a, .string b] (clF 0).offset).run Try.prog u = .ok (.string a) u := by kernel_rfl
theorem cpt1 : (part (clF 1).type #[.string a, .string b] (clF 1).offset).run Try.prog u = .ok (.string b) u := by kernel_rfl
theorem ceq0 : (Op.equalIn 9999 (clF 0).type (.string a) (.string b)).run Try.prog u = .ok (a.toList == b.toList) u := run_equalIn_string u 9998 (clF 0).type a b (by kernel_rfl)
theorem ceq1 : (Op.equalIn 9999 (clF 1).type (.string a) (.string b)).run Try.prog u = .ok (a.toList == b.toList) u := run_equalIn_string u 9998 (clF 1).type a b (by kernel_rfl)
theorem ceqFs : (Op.eqFields 9999 #[.string a, .string b] #[.string c, .string d] (Try.prog.fieldsOf 40).toList).run Try.prog u = .ok ((a.toList == c.toList) && (b.toList == d.toList)) u := by
  rw [clFs]
  have h1 : (Op.eqFields 9999 #[.string a, .string b] #[.string c, .string d] [clF 1]).run Try.prog u = .ok (b.toList == d.toList) u := by
    simp only [Op.eqFields, if_pos cnm1, Sem.run_bind, cpt1, ceq1, Result.andThen_ok]
    cases (b.toList == d.toList) <;> simp
  rw [Op.eqFields, if_pos cnm0]
  simp only [Sem.run_bind, cpt0, ceq0, Result.andThen_ok]
  cases (a.toList == c.toList)
  · simp
  · simp only [Bool.not_true, Bool.false_eq_true, if_false, Bool.true_and]
    exact h1
theorem eqlCl : (binOp .eql 40 (.agg #[.string a, .string b]) (.agg #[.string c, .string d])).run Try.prog u = .ok (.bool ((a.toList == c.toList) && (b.toList == d.toList))) u := by
  rw [run_eql_struct, run_equalIn_agg u 9999 40 _ _ (by kernel_rfl) (by kernel_rfl), ceqFs]
  rfl
theorem neqCl : (binOp .neq 40 (.agg #[.string a, .string b]) (.agg #[.string c, .string d])).run Try.prog u = .ok (.bool (!((a.toList == c.toList) && (b.toList == d.toList)))) u := by
  rw [run_neq_struct, run_equalIn_agg u 9999 40 _ _ (by kernel_rfl) (by kernel_rfl), ceqFs]
  rfl
end
theorem wpList_callv {P : Program} {ops : Array Oper} {rest : List Oper} {o : Oper} {a : Act} {w : World} {Q : Exit → Act → World → Prop} (hgd : o.guard = none) (f x : Operand) (ats : Array TypeId) (ho : o.op = .call { callee := .value f, args := #[x], argTypes := ats })
    (F : FuncId) (caps : Array Value) (hf : a.eval f = .func (.func F) #[] caps) (xv : Value) (hx : a.eval x = xv) (hent : ∀ args (w : World), (callFunc F args).run P w = .ok (.enter F args) w) (d : Option Tmp) (hd : o.dst = d) (R : Value → World → Prop)
    (hc : Calls P F (#[xv] ++ caps) w fun e w' => ∃ v, e = .returned v ∧ R v w') (h : ∀ v w', R v w' → wpList P ops Q rest (a.put d v) w') : wpList P ops Q (o :: rest) a w := by
  refine wpList_plain hgd fun K hK => ?_
  subst hd
  have hrun : (execOp a.eval o).run P w = .ok (.enter F (#[xv] ++ caps)) w := by
    unfold execOp
    simp only [ho, resolve, Deferred.ofValue, hf, invoke, Sem.run_bind, Sem.run_pure, Result.andThen_ok, List.map_toArray, List.map_cons, List.map_nil, hx]
    simpa using hent (#[xv] ++ caps) w
  unfold Oper.wp
  rw [hrun, Oper.upon_enter]
  refine hc.mono fun e w'' hh => ?_
  obtain ⟨v, rfl, hr⟩ := hh
  exact hK _ _ (h v _ hr)
theorem ent_lit {P : Program} (F : FuncId) (h : (P.funcs[F]?).map (fun fn => (fn.name == "runtime.NumGoroutine", fn.body.isNone)) = some (false, false)) (args : Array Value) (w : World) : (callFunc F args).run P w = .ok (.enter F args) w := by
  cases hq : P.funcs[F]? with
  | none => simp [hq] at h
  | some fn =>
    simp only [hq, Option.map_some, Option.some.injEq, Prod.mk.injEq] at h
    have h1 : fn.name ≠ "runtime.NumGoroutine" := by simpa using h.1
    cases hb : fn.body with
    | none => simp [hb] at h
    | some c => simp [callFunc, hq, h1, hb]
end Go.Proofs.Ytkcbljmjhlnjpaa
namespace Go.Proofs.Ytkcbljmjhlnjpaa
open Go.RowKit Go.Lib
theorem oKey (k : ByteArray) (u : World) : Calls Try.prog 12 #[.string k] u fun e u' => e = .returned (.int .i64 (keyE k)) ∧ u' = u := by
  by_cases h1 : k.size < 1
  · have e : keyE k = 130 := by unfold keyE; rw [if_neg (by omega)]
    rw [e]
    have h1' : (k.size : Int) < 1 := by omega
    clear e
    go_enter Try.func12, Try.ntmps12
    go_wp2
    go_ret
    exact ⟨rfl, rfl⟩
  · by_cases h2 : 32 < k.size
    · have e : keyE k = 130 := by unfold keyE; rw [if_neg (by omega)]
      rw [e]
      have h1' : ¬ (k.size : Int) < 1 := by omega
      have h2' : (k.size : Int) > 32 := by omega
      clear e
      go_enter Try.func12, Try.ntmps12
      go_wp2
      go_ret
      exact ⟨rfl, rfl⟩
    · have e : keyE k = 0 := by unfold keyE; rw [if_pos (by omega)]
      rw [e]
      have h1' : ¬ (k.size : Int) < 1 := by omega
      have h2' : ¬ (k.size : Int) > 32 := by omega
      clear e
      go_enter Try.func12, Try.ntmps12
      go_wp2
      go_ret
      exact ⟨rfl, rfl⟩
theorem oAbsent (k : ByteArray) (v : Sv) (n m : Nat) (hn : n ≤ 140737488355328) (u : World) : Calls Try.prog 57 #[obV k v n m] u fun e u' => e = .returned (.bool (decide (n = 0))) ∧ Below u.heap.size u u' := by
  obtain ⟨N, hN⟩ : ∃ N, N = u.heap.size := ⟨_, rfl⟩
  have HN := hide hN
  rw [← hN]
  clear hN
  obtain ⟨b, hb⟩ : ∃ b, b = decide (n = 0) := ⟨_, rfl⟩
  rw [← hb]
  have hq : ((n : Int) == 0) = b := by
    rw [hb]
    by_cases h : n = 0
    · subst h; rfl
    · rw [decide_eq_false h]; exact beq_eq_false_iff_ne.2 (by omega)
  clear hb
  go_enter Try.func57, Try.ntmps57
  go_wp2_with (first
    | ((with_reducible refine wpList_box_ob (by rfl) (.tmp 0) (by rfl) (some 1) (by rfl) N (unhide HN) k v n m (by with_unfolding_all rfl) ?_); intro W1 HX1 HB1 HS1; simp only [Act.put, List.setIfInBounds_toArray, List.set_cons_zero, List.set_cons_succ]; obtain ⟨c0, c1, c2⟩ := ob_cells (unhide HX1))
    | fail)
  go_ret
  exact ⟨rfl, unhide HB1⟩
theorem arr_cell {W : World} {N i : Nat} {cs : Array Value} {t : TypeId} {x : Value} (h : W.heap[N]? = some (.cells cs t (0, 0))) (hi : cs[i]? = some x) : W.cell? ⟨N, i, none⟩ = some x := by
  simp [World.cell?, h, hi]
theorem ofCells_at (l : List UInt8) (i : Nat) (h : i < 32) : (D.ofCells l)[i]? = some (.int .u8 (((D.Sha.of l).getD i 0).toNat : Int)) := by
  have hs := D.ofCells_size l
  unfold D.ofCells at hs ⊢
  rw [List.getElem?_toArray]
  unfold Lib.byteCells at hs ⊢
  have hl : (D.Sha.of l).length = 32 := by simpa using hs
  simp [List.getD_eq_getElem?_getD, hl, h]
theorem or_place (a b : Nat) (hb : b < 256) : a * 16 ||| b / 16 = a * 16 + b / 16 := by
  have h := Nat.shiftLeft_add_eq_or_of_lt (b := b / 16) (i := 4) (by omega) a
  rw [Nat.shiftLeft_eq] at h
  exact h.symm
theorem i64_or_place (a b : Nat) (ha : a < 256) (hb : b < 256) : bits .or .i64 ((a : Int) * 16) ((b : Int) / 16) = ((a * 16 + b / 16 : Nat) : Int) := by
  have e1 : (a : Int) * 16 = ((a * 16 : Nat) : Int) := by omega
  have e2 : (b : Int) / 16 = ((b / 16 : Nat) : Int) := by omega
  rw [e1, e2]
  show IntKind.i64.wrap ((BitVec.ofInt 64 ((a * 16 : Nat) : Int) ||| BitVec.ofInt 64 ((b / 16 : Nat) : Int)).toNat : Int) = _
  rw [BitVec.toNat_or, ofInt_u64 _ (by omega), ofInt_u64 _ (by omega), or_place a b hb]
  generalize hq : a * 16 + b / 16 = q
  rw [IntKind.wrap_i64]
  omega
set_option maxHeartbeats 1000000 in
theorem oPlace0 (k : ByteArray) (hk : k.size ≤ 32) (u : World) : Calls Try.prog 33 #[.string k] u fun e u' => e = .returned (.int .i64 (plN k : Int)) ∧ Below u.heap.size u u' := by
  obtain ⟨T, hT⟩ : ∃ T : ByteArray, T = ⟨#[75]⟩ ++ k := ⟨_, rfl⟩
  have hTd : T.data.toList = 75 :: k.data.toList := by
    rw [hT, ByteArray.data_append, Array.toList_append]
    rfl
  have hTs : T.size ≤ 140737488355328 := by
    have h : T.size = T.data.toList.length := rfl
    rw [h, hTd]
    have h2 : k.data.toList.length = k.size := rfl
    simp only [List.length_cons, h2]
    omega
  have hcat : (Op.stringOp .add (⟨#[75]⟩ : ByteArray) k).run Try.prog u = .ok (.string T) u := by
    rw [hT]
    have h1 : ((⟨#[75]⟩ : ByteArray).size : Int) = 1 := rfl
    unfold Op.stringOp
    simp [h1]
    omega
  obtain ⟨p, hp⟩ : ∃ p, p = plN k := ⟨_, rfl⟩
  unfold plN at hp
  rw [← hTd] at hp
  rw [show plN k = p by unfold plN; rw [hp, hTd]]
  have HQ := hide (D.dOf T hTs)
  have hx := ofCells_at T.data.toList 0 (by decide)
  have hy := ofCells_at T.data.toList 1 (by decide)
  have ha := ((D.Sha.of T.data.toList).getD 0 0).toNat_lt
  have hb := ((D.Sha.of T.data.toList).getD 1 0).toNat_lt
  generalize ((D.Sha.of T.data.toList).getD 0 0).toNat = a at *
  generalize ((D.Sha.of T.data.toList).getD 1 0).toNat = b at *
  have HP := hide hp
  have HX := hide hx
  have HY := hide hy
  clear hp hx hy hT hTd
  have HZS : Hid (D.Z32.size = (D.ofCells T.data.toList).size) := by rw [D.ofCells_size]; rfl
  go_enter Try.func33, Try.ntmps33
  go_wp2_with (first
    | (go_at_call 69; refine (unhide HQ u).mono ?_; rintro e W1 ⟨rfl, hb1⟩; have HB1 := hide hb1; clear hb1; obtain ⟨N, hN⟩ : ∃ N, N = W1.heap.size := ⟨_, rfl⟩; have HN := hide hN; clear hN)
    | ((with_reducible refine wpList_alloc_row (by rfl) _ (by rfl) (some 3) (by rfl) N (unhide HN).symm _ D.zeroS ?_); intro W2 HX2 HB2 HS2; simp only [Act.put, List.setIfInBounds_toArray, List.set_cons_zero, List.set_cons_succ])
    | ((with_reducible refine wpList_store_hid (by rfl) _ (.tmp 3) (.tmp 6) (by rfl) N _ (by with_unfolding_all rfl) (by with_unfolding_all rfl) _ _ (unhide HX2) (D.ofCells_info _) (unhide HZS) (D.ofCells_one _) ?_); intro W3 HX3 HE3; simp only [Act.put]; have c0 := arr_cell (unhide HX3) (unhide HX); have c1 := arr_cell (unhide HX3) (unhide HY))
    | fail)
  rw [i64_or_place a b ha hb, ← unhide HP]
  go_ret
  refine ⟨rfl, ?_⟩
  rw [unhide HE3]
  exact belowRow ((unhide HB1).trans ((unhide HB2).mono (by rw [unhide HN]; exact (unhide HB1).size))) (by rw [unhide HN]; exact (unhide HB1).size) _
end Go.Proofs.Ytkcbljmjhlnjpaa
namespace Go.Proofs.Ytkcbljmjhlnjpaa
open Go.RowKit Go.Lib
/-- the blocks of a state's lists -/
def Sv.has (x : Sv) (n m : Nat) (g : Nat) : Prop := (Value.slice x.sa n x.sc).ownBlock = some g ∨ (Value.slice x.ba m x.bc).ownBlock = some g
theorem OwnT.keep {w w' : World} {B : Nat} {s : St} {x : Sv} (h : OwnT w B s x) (hk : ∀ g, x.has s.seen.length s.sibs.length g → w'.heap[g]? = w.heap[g]?) : OwnT w' B s x :=
  ⟨own_keep h.seen fun g hg => hk g (.inl hg), own_keep h.sibs fun g hg => hk g (.inr hg)⟩
theorem OwnT.lt {w : World} {B : Nat} {s : St} {x : Sv} (h : OwnT w B s x) {g : Nat} (hg : x.has s.seen.length s.sibs.length g) : B ≤ g ∧ g < w.heap.size := by
  rcases hg with hg | hg
  · exact World.ownsRow.lt h.seen g hg
  · exact World.ownsRow.lt h.sibs g hg
theorem Sv.none_has (n m g : Nat) : ¬ Sv.none.has n m g := by
  rintro (h | h) <;> cases h
/-- what a closure that tells an object leaves -/
structure Tell (u W W' : World) (J : Ot) (B : Nat) (Pg : Nat → Prop) (x : Sv) (k l : Nat) : Prop where
  ek : k = J.st.seen.length
  el : l = J.st.sibs.length
  own : OwnT W' B J.st x
  bel : Below W.heap.size W W'
  far : ∀ g, x.has k l g → g < u.heap.size ∨ W.heap.size ≤ g
  pg : ∀ g, x.has k l g → Pg g
set_option maxRecDepth 100000 in
set_option maxHeartbeats 4000000 in
theorem oMayS {u : World} {o : Ot} {v : Sv} {n m : Nat} (h : Sx u o.st v n m) (F : FuncId) (caps : Array Value) (hent : ∀ args (w : World), (callFunc F args).run Try.prog w = .ok (.enter F args) w) (x : ByteArray) (r : Int)
    (hgo : ckE o = 0 → ∀ W, Below u.heap.size u W → Calls Try.prog F (#[.string ⟨(stB o.st).toArray⟩] ++ caps) W fun e W' => ∃ y, e = .returned y ∧ (y = .tuple #[.string x, .int .i64 r] ∧ Below W.heap.size W W'))
    (hno : ckE o ≠ 0 → x = eB ∧ r = ckE o) :
    Calls Try.prog 63 #[obV o.key v n m, .func (.func F) #[] caps] u fun e u' => e = .returned (.tuple #[.string x, .int .i64 r]) ∧ Below u.heap.size u u' := by
  obtain ⟨N, hN⟩ : ∃ N, N = u.heap.size := ⟨_, rfl⟩
  have HN := hide hN
  have HU : Hid (∀ W : World, Below N u W → Below u.heap.size u W) := fun W hW => by rw [← unhide HN]; exact hW
  rw [← hN]
  clear hN
  have HO := hide h
  have HF := hide hent
  clear h hent
  by_cases h1 : keyE o.key = 0
  · have HK := hide h1
    by_cases h2 : SOk o.st
    · have HE := hide (encT_ok h2)
      have hz := size_st o.st
      by_cases h3 : (stB o.st).length ≤ 280
      · have HG := hide (hgo (ck_zero.2 ⟨keyE_zero.1 h1, h2, h3⟩))
        clear hno hgo
        generalize (⟨(stB o.st).toArray⟩ : ByteArray) = b at *
        have hb : ¬ (b.size : Int) > 280 := by omega
        clear hz h3 h2 h1
        go_enter Try.func63, Try.ntmps63
        go_wp2_with (first
          | ((with_reducible refine wpList_box_ob (by rfl) (.tmp 0) (by rfl) (some 2) (by rfl) N (unhide HN) o.key v n m (by with_unfolding_all rfl) ?_); intro W1 HX1 HB1 HS1; simp only [Act.put, List.setIfInBounds_toArray, List.set_cons_zero, List.set_cons_succ]; have HBU := HB1; have HLO : Hid (Lo W1 N o v n m) := ⟨(unhide HO).below (unhide HU _ (unhide HBU)), unhide HX1⟩; obtain ⟨c0, c1, c2⟩ := (unhide HLO).cells; clear HX1 HB1)
          | (go_at_call 12; refine (oKey o.key _).mono ?_; rintro e W4 ⟨rfl, rfl⟩; rw [unhide HK])
          | (go_at_call 87; refine (kvEncode (unhide HE) (unhide HLO).toSx).mono ?_; rintro e W5 ⟨rfl, hb⟩; clear c0 c1 c2; replace HBU : Hid (Below N u W5) := (unhide HBU).trans (hb.mono (by rw [unhide HS1]; omega)); have HS5 : Hid (N + 1 ≤ W5.heap.size) := (by have := hb.size; rw [unhide HS1] at this; exact this); clear hb HLO)
          | ((with_reducible refine wpList_callv (by rfl) (.tmp 31) (.tmp 32) _ (by rfl) F caps (by with_unfolding_all rfl) (.string b) (by with_unfolding_all rfl) (unhide HF) (some 33) (by rfl) _ (unhide HG W5 (unhide HU _ (unhide HBU))) ?_); rintro _ W6 ⟨rfl, hb⟩; simp only [Act.put, List.setIfInBounds_toArray, List.set_cons_zero, List.set_cons_succ]; replace HBU : Hid (Below N u W6) := (unhide HBU).trans (hb.mono (by have := unhide HS5; omega)); clear hb)
          | fail)
        go_ret2
        exact ⟨rfl, unhide HBU⟩
      · have hc : ckE o = 82 := by unfold ckE; rw [if_pos h1, encT_ok h2, if_pos rfl, size_st, if_neg h3]
        rw [hc] at hno
        obtain ⟨rfl, rfl⟩ := hno (by decide)
        clear hgo hno hc
        generalize (⟨(stB o.st).toArray⟩ : ByteArray) = b at *
        have hb : (b.size : Int) > 280 := by omega
        clear hz h3 h2 h1
        go_enter Try.func63, Try.ntmps63
        go_wp2_with (first
          | ((with_reducible refine wpList_box_ob (by rfl) (.tmp 0) (by rfl) (some 2) (by rfl) N (unhide HN) o.key v n m (by with_unfolding_all rfl) ?_); intro W1 HX1 HB1 HS1; simp only [Act.put, List.setIfInBounds_toArray, List.set_cons_zero, List.set_cons_succ]; have HBU := HB1; have HLO : Hid (Lo W1 N o v n m) := ⟨(unhide HO).below (unhide HU _ (unhide HBU)), unhide HX1⟩; obtain ⟨c0, c1, c2⟩ := (unhide HLO).cells; clear HX1 HB1)
          | (go_at_call 12; refine (oKey o.key _).mono ?_; rintro e W4 ⟨rfl, rfl⟩; rw [unhide HK])
          | (go_at_call 87; refine (kvEncode (unhide HE) (unhide HLO).toSx).mono ?_; rintro e W5 ⟨rfl, hb⟩; clear c0 c1 c2; replace HBU : Hid (Below N u W5) := (unhide HBU).trans (hb.mono (by rw [unhide HS1]; omega)); have HS5 : Hid (N + 1 ≤ W5.heap.size) := (by have := hb.size; rw [unhide HS1] at this; exact this); clear hb HLO)
          | fail)
        go_ret2
        exact ⟨rfl, unhide HBU⟩
    · have HE := hide (encT_no h2)
      have hc : ckE o = 110 := by unfold ckE; rw [if_pos h1, encT_no h2]; rfl
      rw [hc] at hno
      obtain ⟨rfl, rfl⟩ := hno (by decide)
      clear hgo hno hc h2 h1
      go_enter Try.func63, Try.ntmps63
      go_wp2_with (first
        | ((with_reducible refine wpList_box_ob (by rfl) (.tmp 0) (by rfl) (some 2) (by rfl) N (unhide HN) o.key v n m (by with_unfolding_all rfl) ?_); intro W1 HX1 HB1 HS1; simp only [Act.put, List.setIfInBounds_toArray, List.set_cons_zero, List.set_cons_succ]; have HBU := HB1; have HLO : Hid (Lo W1 N o v n m) := ⟨(unhide HO).below (unhide HU _ (unhide HBU)), unhide HX1⟩; obtain ⟨c0, c1, c2⟩ := (unhide HLO).cells; clear HX1 HB1)
        | (go_at_call 12; refine (oKey o.key _).mono ?_; rintro e W4 ⟨rfl, rfl⟩; rw [unhide HK])
        | (go_at_call 87; refine (kvEncode (unhide HE) (unhide HLO).toSx).mono ?_; rintro e W5 ⟨rfl, hb⟩; clear c0 c1 c2; replace HBU : Hid (Below N u W5) := (unhide HBU).trans (hb.mono (by rw [unhide HS1]; omega)); have HS5 : Hid (N + 1 ≤ W5.heap.size) := (by have := hb.size; rw [unhide HS1] at this; exact this); clear hb HLO)
        | fail)
      go_ret2
      exact ⟨rfl, unhide HBU⟩
  · have hk : keyE o.key = 130 := by
      unfold keyE at h1 ⊢
      by_cases h : 1 ≤ o.key.size ∧ o.key.size ≤ 32
      · rw [if_pos h] at h1; exact absurd rfl h1
      · rw [if_neg h]
    have HK := hide hk
    have hc : ckE o = 130 := by unfold ckE; rw [if_neg h1, hk]
    rw [hc] at hno
    obtain ⟨rfl, rfl⟩ := hno (by decide)
    clear hgo hno hc h1 hk
    go_enter Try.func63, Try.ntmps63
    go_wp2_with (first
      | ((with_reducible refine wpList_box_ob (by rfl) (.tmp 0) (by rfl) (some 2) (by rfl) N (unhide HN) o.key v n m (by with_unfolding_all rfl) ?_); intro W1 HX1 HB1 HS1; simp only [Act.put, List.setIfInBounds_toArray, List.set_cons_zero, List.set_cons_succ]; have HBU := HB1; have HLO : Hid (Lo W1 N o v n m) := ⟨(unhide HO).below (unhide HU _ (unhide HBU)), unhide HX1⟩; obtain ⟨c0, c1, c2⟩ := (unhide HLO).cells; clear HX1 HB1)
      | (go_at_call 12; refine (oKey o.key _).mono ?_; rintro e W4 ⟨rfl, rfl⟩; rw [unhide HK])
      | fail)
    go_ret2
    exact ⟨rfl, unhide HBU⟩
set_option maxRecDepth 100000 in
set_option maxHeartbeats 4000000 in
theorem oMayC {u : World} {o : Ot} {v : Sv} {n m : Nat} (h : Sx u o.st v n m) (F : FuncId) (caps : Array Value) (hent : ∀ args (w : World), (callFunc F args).run Try.prog w = .ok (.enter F args) w) (x z : ByteArray) (r : Int)
    (hgo : ckE o = 0 → ∀ W, Below u.heap.size u W → Calls Try.prog F (#[.string ⟨(stB o.st).toArray⟩] ++ caps) W fun e W' => ∃ y, e = .returned y ∧ (y = .tuple #[.agg #[.string x, .string z], .int .i64 r] ∧ Below W.heap.size W W'))
    (hno : ckE o ≠ 0 → x = eB ∧ z = eB ∧ r = ckE o) :
    Calls Try.prog 55 #[obV o.key v n m, .func (.func F) #[] caps] u fun e u' => e = .returned (.tuple #[.agg #[.string x, .string z], .int .i64 r]) ∧ Below u.heap.size u u' := by
  obtain ⟨N, hN⟩ : ∃ N, N = u.heap.size := ⟨_, rfl⟩
  have HN := hide hN
  have HU : Hid (∀ W : World, Below N u W → Below u.heap.size u W) := fun W hW => by rw [← unhide HN]; exact hW
  rw [← hN]
  clear hN
  have HO := hide h
  have HF := hide hent
  clear h hent
  by_cases h1 : keyE o.key = 0
  · have HK := hide h1
    by_cases h2 : SOk o.st
    · have HE := hide (encT_ok h2)
      have hz := size_st o.st
      by_cases h3 : (stB o.st).length ≤ 280
      · have HG := hide (hgo (ck_zero.2 ⟨keyE_zero.1 h1, h2, h3⟩))
        clear hno hgo
        generalize (⟨(stB o.st).toArray⟩ : ByteArray) = b at *
        have hb : ¬ (b.size : Int) > 280 := by omega
        clear hz h3 h2 h1
        go_enter Try.func55, Try.ntmps55
        go_wp2_with (first
          | ((with_reducible refine wpList_box_ob (by rfl) (.tmp 0) (by rfl) (some 2) (by rfl) N (unhide HN) o.key v n m (by with_unfolding_all rfl) ?_); intro W1 HX1 HB1 HS1; simp only [Act.put, List.setIfInBounds_toArray, List.set_cons_zero, List.set_cons_succ])
          | ((with_reducible refine wpList_alloc_ce (by rfl) (by rfl) (some 4) (by rfl) (N + 1) (unhide HS1).symm ?_); intro W2 HX2 HB2 HS2; simp only [Act.put, List.setIfInBounds_toArray, List.set_cons_zero, List.set_cons_succ])
          | ((with_reducible refine wpList_alloc_ce (by rfl) (by rfl) (some 6) (by rfl) (N + 1 + 1) (unhide HS2).symm ?_); intro W3 HX3 HB3 HS3; simp only [Act.put, List.setIfInBounds_toArray, List.set_cons_zero, List.set_cons_succ]; have HBU : Hid (Below N u W3) := (unhide HB1).trans (((unhide HB2).mono (Nat.le_succ _)).trans ((unhide HB3).mono (by omega))); have HLO : Hid (Lo W3 N o v n m) := ⟨(unhide HO).below (unhide HU _ (unhide HBU)), ((unhide HB3).block N (by omega)).trans (((unhide HB2).block N (Nat.lt_succ_self _)).trans (unhide HX1))⟩; replace HX2 : Hid (W3.heap[N + 1]? = _) := ((unhide HB3).block (N + 1) (Nat.lt_succ_self _)).trans (unhide HX2); obtain ⟨c0, c1, c2⟩ := (unhide HLO).cells; obtain ⟨d0, d1⟩ := ce_cells (unhide HX3); clear HX1 HB1 HB2 HB3)
          | (go_at_call 12; refine (oKey o.key _).mono ?_; rintro e W4 ⟨rfl, rfl⟩; rw [unhide HK])
          | (go_at_call 87; refine (kvEncode (unhide HE) (unhide HLO).toSx).mono ?_; rintro e W5 ⟨rfl, hb⟩; clear c0 c1 c2; clear d0 d1; replace HX2 := hide (box_below (unhide HX2) hb); replace HX3 := hide (box_below (unhide HX3) hb); obtain ⟨d0, d1⟩ := ce_cells (unhide HX3); replace HBU : Hid (Below N u W5) := (unhide HBU).trans (hb.mono (by rw [unhide HS3]; omega)); have HS5 : Hid (N + 1 + 1 + 1 ≤ W5.heap.size) := (by have := hb.size; rw [unhide HS3] at this; exact this); clear hb HLO)
          | ((with_reducible refine wpList_callv (by rfl) (.tmp 31) (.tmp 32) _ (by rfl) F caps (by with_unfolding_all rfl) (.string b) (by with_unfolding_all rfl) (unhide HF) (some 33) (by rfl) _ (unhide HG W5 (unhide HU _ (unhide HBU))) ?_); rintro _ W6 ⟨rfl, hb⟩; simp only [Act.put, List.setIfInBounds_toArray, List.set_cons_zero, List.set_cons_succ]; replace HX2 := hide (box_below (unhide HX2) hb); replace HBU : Hid (Below N u W6) := (unhide HBU).trans (hb.mono (by have := unhide HS5; omega)); clear hb)
          | ((with_reducible refine wpList_store_ce (by rfl) (.tmp 4) (.tmp 34) (by rfl) (N + 1) x z (by with_unfolding_all rfl) (by with_unfolding_all rfl) _ _ (unhide HX2) ?_); intro W7 HX7 HE7; simp only [Act.put])
          | fail)
        refine bodyPost_ret (results_cell_tmp rfl _ _ (N + 1) 40 #[.string x, .string z] (0, 0) _ rfl (unhide HX7) ceUnd rfl ceInfo) rfl ?_
        exact ⟨rfl, by rw [unhide HE7]; exact belowRow (unhide HBU) (by omega) _⟩
      · have hc : ckE o = 82 := by unfold ckE; rw [if_pos h1, encT_ok h2, if_pos rfl, size_st, if_neg h3]
        rw [hc] at hno
        obtain ⟨rfl, rfl, rfl⟩ := hno (by decide)
        clear hgo hno hc
        generalize (⟨(stB o.st).toArray⟩ : ByteArray) = b at *
        have hb : (b.size : Int) > 280 := by omega
        clear hz h3 h2 h1
        go_enter Try.func55, Try.ntmps55
        go_wp2_with (first
          | ((with_reducible refine wpList_box_ob (by rfl) (.tmp 0) (by rfl) (some 2) (by rfl) N (unhide HN) o.key v n m (by with_unfolding_all rfl) ?_); intro W1 HX1 HB1 HS1; simp only [Act.put, List.setIfInBounds_toArray, List.set_cons_zero, List.set_cons_succ])
          | ((with_reducible refine wpList_alloc_ce (by rfl) (by rfl) (some 4) (by rfl) (N + 1) (unhide HS1).symm ?_); intro W2 HX2 HB2 HS2; simp only [Act.put, List.setIfInBounds_toArray, List.set_cons_zero, List.set_cons_succ])
          | ((with_reducible refine wpList_alloc_ce (by rfl) (by rfl) (some 6) (by rfl) (N + 1 + 1) (unhide HS2).symm ?_); intro W3 HX3 HB3 HS3; simp only [Act.put, List.setIfInBounds_toArray, List.set_cons_zero, List.set_cons_succ]; have HBU : Hid (Below N u W3) := (unhide HB1).trans (((unhide HB2).mono (Nat.le_succ _)).trans ((unhide HB3).mono (by omega))); have HLO : Hid (Lo W3 N o v n m) := ⟨(unhide HO).below (unhide HU _ (unhide HBU)), ((unhide HB3).block N (by omega)).trans (((unhide HB2).block N (Nat.lt_succ_self _)).trans (unhide HX1))⟩; replace HX2 : Hid (W3.heap[N + 1]? = _) := ((unhide HB3).block (N + 1) (Nat.lt_succ_self _)).trans (unhide HX2); obtain ⟨c0, c1, c2⟩ := (unhide HLO).cells; obtain ⟨d0, d1⟩ := ce_cells (unhide HX3); clear HX1 HB1 HB2 HB3)
          | (go_at_call 12; refine (oKey o.key _).mono ?_; rintro e W4 ⟨rfl, rfl⟩; rw [unhide HK])
          | (go_at_call 87; refine (kvEncode (unhide HE) (unhide HLO).toSx).mono ?_; rintro e W5 ⟨rfl, hb⟩; clear c0 c1 c2; clear d0 d1; replace HX2 := hide (box_below (unhide HX2) hb); replace HX3 := hide (box_below (unhide HX3) hb); obtain ⟨d0, d1⟩ := ce_cells (unhide HX3); replace HBU : Hid (Below N u W5) := (unhide HBU).trans (hb.mono (by rw [unhide HS3]; omega)); have HS5 : Hid (N + 1 + 1 + 1 ≤ W5.heap.size) := (by have := hb.size; rw [unhide HS3] at this; exact this); clear hb HLO)
          | ((with_reducible refine wpList_store_ce (by rfl) (.tmp 4) (.tmp 30) (by rfl) (N + 1) ⟨#[]⟩ ⟨#[]⟩ (by with_unfolding_all rfl) (by with_unfolding_all rfl) _ _ (unhide HX2) ?_); intro W7 HX7 HE7; simp only [Act.put])
          | fail)
        refine bodyPost_ret (results_cell_tmp rfl _ _ (N + 1) 40 #[.string ⟨#[]⟩, .string ⟨#[]⟩] (0, 0) _ rfl (unhide HX7) ceUnd rfl ceInfo) rfl ?_
        exact ⟨rfl, by rw [unhide HE7]; exact belowRow (unhide HBU) (by omega) _⟩
    · have HE := hide (encT_no h2)
      have hc : ckE o = 110 := by unfold ckE; rw [if_pos h1, encT_no h2]; rfl
      rw [hc] at hno
      obtain ⟨rfl, rfl, rfl⟩ := hno (by decide)
      clear hgo hno hc h2 h1
      go_enter Try.func55, Try.ntmps55
      go_wp2_with (first
        | ((with_reducible refine wpList_box_ob (by rfl) (.tmp 0) (by rfl) (some 2) (by rfl) N (unhide HN) o.key v n m (by with_unfolding_all rfl) ?_); intro W1 HX1 HB1 HS1; simp only [Act.put, List.setIfInBounds_toArray, List.set_cons_zero, List.set_cons_succ])
        | ((with_reducible refine wpList_alloc_ce (by rfl) (by rfl) (some 4) (by rfl) (N + 1) (unhide HS1).symm ?_); intro W2 HX2 HB2 HS2; simp only [Act.put, List.setIfInBounds_toArray, List.set_cons_zero, List.set_cons_succ])
        | ((with_reducible refine wpList_alloc_ce (by rfl) (by rfl) (some 6) (by rfl) (N + 1 + 1) (unhide HS2).symm ?_); intro W3 HX3 HB3 HS3; simp only [Act.put, List.setIfInBounds_toArray, List.set_cons_zero, List.set_cons_succ]; have HBU : Hid (Below N u W3) := (unhide HB1).trans (((unhide HB2).mono (Nat.le_succ _)).trans ((unhide HB3).mono (by omega))); have HLO : Hid (Lo W3 N o v n m) := ⟨(unhide HO).below (unhide HU _ (unhide HBU)), ((unhide HB3).block N (by omega)).trans (((unhide HB2).block N (Nat.lt_succ_self _)).trans (unhide HX1))⟩; replace HX2 : Hid (W3.heap[N + 1]? = _) := ((unhide HB3).block (N + 1) (Nat.lt_succ_self _)).trans (unhide HX2); obtain ⟨c0, c1, c2⟩ := (unhide HLO).cells; obtain ⟨d0, d1⟩ := ce_cells (unhide HX3); clear HX1 HB1 HB2 HB3)
        | (go_at_call 12; refine (oKey o.key _).mono ?_; rintro e W4 ⟨rfl, rfl⟩; rw [unhide HK])
        | (go_at_call 87; refine (kvEncode (unhide HE) (unhide HLO).toSx).mono ?_; rintro e W5 ⟨rfl, hb⟩; clear c0 c1 c2; clear d0 d1; replace HX2 := hide (box_below (unhide HX2) hb); replace HX3 := hide (box_below (unhide HX3) hb); obtain ⟨d0, d1⟩ := ce_cells (unhide HX3); replace HBU : Hid (Below N u W5) := (unhide HBU).trans (hb.mono (by rw [unhide HS3]; omega)); have HS5 : Hid (N + 1 + 1 + 1 ≤ W5.heap.size) := (by have := hb.size; rw [unhide HS3] at this; exact this); clear hb HLO)
        | ((with_reducible refine wpList_store_ce (by rfl) (.tmp 4) (.tmp 25) (by rfl) (N + 1) ⟨#[]⟩ ⟨#[]⟩ (by with_unfolding_all rfl) (by with_unfolding_all rfl) _ _ (unhide HX2) ?_); intro W7 HX7 HE7; simp only [Act.put])
        | fail)
      refine bodyPost_ret (results_cell_tmp rfl _ _ (N + 1) 40 #[.string ⟨#[]⟩, .string ⟨#[]⟩] (0, 0) _ rfl (unhide HX7) ceUnd rfl ceInfo) rfl ?_
      exact ⟨rfl, by rw [unhide HE7]; exact belowRow (unhide HBU) (by omega) _⟩
  · have hk : keyE o.key = 130 := by
      unfold keyE at h1 ⊢
      by_cases h : 1 ≤ o.key.size ∧ o.key.size ≤ 32
      · rw [if_pos h] at h1; exact absurd rfl h1
      · rw [if_neg h]
    have HK := hide hk
    have hc : ckE o = 130 := by unfold ckE; rw [if_neg h1, hk]
    rw [hc] at hno
    obtain ⟨rfl, rfl, rfl⟩ := hno (by decide)
    clear hgo hno hc h1 hk
    go_enter Try.func55, Try.ntmps55
    go_wp2_with (first
      | ((with_reducible refine wpList_box_ob (by rfl) (.tmp 0) (by rfl) (some 2) (by rfl) N (unhide HN) o.key v n m (by with_unfolding_all rfl) ?_); intro W1 HX1 HB1 HS1; simp only [Act.put, List.setIfInBounds_toArray, List.set_cons_zero, List.set_cons_succ])
      | ((with_reducible refine wpList_alloc_ce (by rfl) (by rfl) (some 4) (by rfl) (N + 1) (unhide HS1).symm ?_); intro W2 HX2 HB2 HS2; simp only [Act.put, List.setIfInBounds_toArray, List.set_cons_zero, List.set_cons_succ])
      | ((with_reducible refine wpList_alloc_ce (by rfl) (by rfl) (some 6) (by rfl) (N + 1 + 1) (unhide HS2).symm ?_); intro W3 HX3 HB3 HS3; simp only [Act.put, List.setIfInBounds_toArray, List.set_cons_zero, List.set_cons_succ]; have HBU : Hid (Below N u W3) := (unhide HB1).trans (((unhide HB2).mono (Nat.le_succ _)).trans ((unhide HB3).mono (by omega))); have HLO : Hid (Lo W3 N o v n m) := ⟨(unhide HO).below (unhide HU _ (unhide HBU)), ((unhide HB3).block N (by omega)).trans (((unhide HB2).block N (Nat.lt_succ_self _)).trans (unhide HX1))⟩; replace HX2 : Hid (W3.heap[N + 1]? = _) := ((unhide HB3).block (N + 1) (Nat.lt_succ_self _)).trans (unhide HX2); obtain ⟨c0, c1, c2⟩ := (unhide HLO).cells; obtain ⟨d0, d1⟩ := ce_cells (unhide HX3); clear HX1 HB1 HB2 HB3)
      | (go_at_call 12; refine (oKey o.key _).mono ?_; rintro e W4 ⟨rfl, rfl⟩; rw [unhide HK])
      | ((with_reducible refine wpList_store_ce (by rfl) (.tmp 4) (.tmp 15) (by rfl) (N + 1) ⟨#[]⟩ ⟨#[]⟩ (by with_unfolding_all rfl) (by with_unfolding_all rfl) _ _ (unhide HX2) ?_); intro W7 HX7 HE7; simp only [Act.put])
      | fail)
    refine bodyPost_ret (results_cell_tmp rfl _ _ (N + 1) 40 #[.string ⟨#[]⟩, .string ⟨#[]⟩] (0, 0) _ rfl (unhide HX7) ceUnd rfl ceInfo) rfl ?_
    exact ⟨rfl, by rw [unhide HE7]; exact belowRow (unhide HBU) (by omega) _⟩
set_option maxRecDepth 100000 in
set_option maxHeartbeats 4000000 in
theorem oMayO {u : World} {o : Ot} {v : Sv} {n m : Nat} (h : Sx u o.st v n m) (F : FuncId) (caps : Array Value) (hent : ∀ args (w : World), (callFunc F args).run Try.prog w = .ok (.enter F args) w) (J : Ot) (r : Int) (B : Nat) (Pg : Nat → Prop)
    (hgo : ckE o = 0 → ∀ W, Below u.heap.size u W → Calls Try.prog F (#[.string ⟨(stB o.st).toArray⟩] ++ caps) W fun e W' => ∃ y, e = .returned y ∧ ∃ x k l, y = .tuple #[obV J.key x k l, .int .i64 r] ∧ Tell u W W' J B Pg x k l)
    (hno : ckE o ≠ 0 → J = Ot.none ∧ r = ckE o) :
    Calls Try.prog 47 #[obV o.key v n m, .func (.func F) #[] caps] u fun e u' => ∃ x k l, e = .returned (.tuple #[obV J.key x k l, .int .i64 r]) ∧ k = J.st.seen.length ∧ l = J.st.sibs.length ∧ OwnT u' B J.st x ∧ Below u.heap.size u u' ∧ ∀ g, x.has k l g → Pg g := by
  obtain ⟨N, hN⟩ : ∃ N, N = u.heap.size := ⟨_, rfl⟩
  have HN := hide hN
  have HU : Hid (∀ W : World, Below N u W → Below u.heap.size u W) := fun W hW => by rw [← unhide HN]; exact hW
  rw [← hN]
  clear hN
  have HO := hide h
  have HF := hide hent
  clear h hent
  by_cases h1 : keyE o.key = 0
  · have HK := hide h1
    by_cases h2 : SOk o.st
    · have HE := hide (encT_ok h2)
      have hz := size_st o.st
      by_cases h3 : (stB o.st).length ≤ 280
      · have HG := hide (hgo (ck_zero.2 ⟨keyE_zero.1 h1, h2, h3⟩))
        clear hno hgo
        generalize (⟨(stB o.st).toArray⟩ : ByteArray) = b at *
        have hb : ¬ (b.size : Int) > 280 := by omega
        clear hz h3 h2 h1
        go_enter Try.func47, Try.ntmps47
        go_wp2_with (first
          | ((with_reducible refine wpList_box_ob (by rfl) (.tmp 0) (by rfl) (some 2) (by rfl) N (unhide HN) o.key v n m (by with_unfolding_all rfl) ?_); intro W1 HX1 HB1 HS1; simp only [Act.put, List.setIfInBounds_toArray, List.set_cons_zero, List.set_cons_succ])
          | ((with_reducible refine wpList_alloc_ob (by rfl) (by rfl) (some 4) (by rfl) (N + 1) (unhide HS1).symm ?_); intro W2 HX2 HB2 HS2; simp only [Act.put, List.setIfInBounds_toArray, List.set_cons_zero, List.set_cons_succ])
          | ((with_reducible refine wpList_alloc_ob (by rfl) (by rfl) (some 6) (by rfl) (N + 1 + 1) (unhide HS2).symm ?_); intro W3 HX3 HB3 HS3; simp only [Act.put, List.setIfInBounds_toArray, List.set_cons_zero, List.set_cons_succ]; have HBU : Hid (Below N u W3) := (unhide HB1).trans (((unhide HB2).mono (Nat.le_succ _)).trans ((unhide HB3).mono (by omega))); have HLO : Hid (Lo W3 N o v n m) := ⟨(unhide HO).below (unhide HU _ (unhide HBU)), ((unhide HB3).block N (by omega)).trans (((unhide HB2).block N (Nat.lt_succ_self _)).trans (unhide HX1))⟩; replace HX2 : Hid (W3.heap[N + 1]? = _) := ((unhide HB3).block (N + 1) (Nat.lt_succ_self _)).trans (unhide HX2); obtain ⟨c0, c1, c2⟩ := (unhide HLO).cells; obtain ⟨d0, d1, d2⟩ := ob_cells (unhide HX3); clear HX1 HB1 HB2 HB3)
          | (go_at_call 12; refine (oKey o.key _).mono ?_; rintro e W4 ⟨rfl, rfl⟩; rw [unhide HK])
          | (go_at_call 87; refine (kvEncode (unhide HE) (unhide HLO).toSx).mono ?_; rintro e W5 ⟨rfl, hb⟩; clear c0 c1 c2; clear d0 d1 d2; replace HX2 := hide (box_below (unhide HX2) hb); replace HX3 := hide (box_below (unhide HX3) hb); obtain ⟨d0, d1, d2⟩ := ob_cells (unhide HX3); replace HBU : Hid (Below N u W5) := (unhide HBU).trans (hb.mono (by rw [unhide HS3]; omega)); have HS5 : Hid (N + 1 + 1 + 1 ≤ W5.heap.size) := (by have := hb.size; rw [unhide HS3] at this; exact this); clear hb HLO)
          | ((with_reducible refine wpList_callv (by rfl) (.tmp 31) (.tmp 32) _ (by rfl) F caps (by with_unfolding_all rfl) (.string b) (by with_unfolding_all rfl) (unhide HF) (some 33) (by rfl) _ (unhide HG W5 (unhide HU _ (unhide HBU))) ?_); rintro _ W6 ⟨x, k, l, rfl, ht⟩; simp only [Act.put, List.setIfInBounds_toArray, List.set_cons_zero, List.set_cons_succ]; have HT := hide ht; replace HX2 := hide (box_below (unhide HX2) ht.bel); replace HBU : Hid (Below N u W6) := (unhide HBU).trans (ht.bel.mono (by have := unhide HS5; omega)); clear ht; simp only [obV])
          | ((with_reducible refine wpList_store_ob (by rfl) (.tmp 4) (.tmp 34) (by rfl) (N + 1) J.key x k l (by with_unfolding_all rfl) (by with_unfolding_all rfl) _ _ _ _ (unhide HX2) ?_); intro W7 HX7 HE7; simp only [Act.put])
          | fail)
        refine bodyPost_ret (results_cell_tmp rfl _ _ (N + 1) 33 #[.string J.key, .slice x.sa k x.sc, .slice x.ba l x.bc] (0, 0) _ rfl (unhide HX7) obUnd rfl obInfo) rfl ?_
        refine ⟨x, k, l, rfl, (unhide HT).ek, (unhide HT).el, ?_, by rw [unhide HE7]; exact belowRow (unhide HBU) (by omega) _, (unhide HT).pg⟩
        rw [unhide HE7]
        refine (unhide HT).own.keep fun g hg => heapRow_other _ _ _ _ ?_
        rw [← (unhide HT).ek, ← (unhide HT).el] at hg
        have h1 := (unhide HT).far g hg
        have h2 := unhide HS5
        rw [← unhide HN] at h1
        omega
      · have hc : ckE o = 82 := by unfold ckE; rw [if_pos h1, encT_ok h2, if_pos rfl, size_st, if_neg h3]
        rw [hc] at hno
        obtain ⟨rfl, rfl⟩ := hno (by decide)
        clear hgo hno hc
        generalize (⟨(stB o.st).toArray⟩ : ByteArray) = b at *
        have hb : (b.size : Int) > 280 := by omega
        clear hz h3 h2 h1
        go_enter Try.func47, Try.ntmps47
        go_wp2_with (first
          | ((with_reducible refine wpList_box_ob (by rfl) (.tmp 0) (by rfl) (some 2) (by rfl) N (unhide HN) o.key v n m (by with_unfolding_all rfl) ?_); intro W1 HX1 HB1 HS1; simp only [Act.put, List.setIfInBounds_toArray, List.set_cons_zero, List.set_cons_succ])
          | ((with_reducible refine wpList_alloc_ob (by rfl) (by rfl) (some 4) (by rfl) (N + 1) (unhide HS1).symm ?_); intro W2 HX2 HB2 HS2; simp only [Act.put, List.setIfInBounds_toArray, List.set_cons_zero, List.set_cons_succ])
          | ((with_reducible refine wpList_alloc_ob (by rfl) (by rfl) (some 6) (by rfl) (N + 1 + 1) (unhide HS2).symm ?_); intro W3 HX3 HB3 HS3; simp only [Act.put, List.setIfInBounds_toArray, List.set_cons_zero, List.set_cons_succ]; have HBU : Hid (Below N u W3) := (unhide HB1).trans (((unhide HB2).mono (Nat.le_succ _)).trans ((unhide HB3).mono (by omega))); have HLO : Hid (Lo W3 N o v n m) := ⟨(unhide HO).below (unhide HU _ (unhide HBU)), ((unhide HB3).block N (by omega)).trans (((unhide HB2).block N (Nat.lt_succ_self _)).trans (unhide HX1))⟩; replace HX2 : Hid (W3.heap[N + 1]? = _) := ((unhide HB3).block (N + 1) (Nat.lt_succ_self _)).trans (unhide HX2); obtain ⟨c0, c1, c2⟩ := (unhide HLO).cells; obtain ⟨d0, d1, d2⟩ := ob_cells (unhide HX3); clear HX1 HB1 HB2 HB3)
          | (go_at_call 12; refine (oKey o.key _).mono ?_; rintro e W4 ⟨rfl, rfl⟩; rw [unhide HK])
          | (go_at_call 87; refine (kvEncode (unhide HE) (unhide HLO).toSx).mono ?_; rintro e W5 ⟨rfl, hb⟩; clear c0 c1 c2; clear d0 d1 d2; replace HX2 := hide (box_below (unhide HX2) hb); replace HX3 := hide (box_below (unhide HX3) hb); obtain ⟨d0, d1, d2⟩ := ob_cells (unhide HX3); replace HBU : Hid (Below N u W5) := (unhide HBU).trans (hb.mono (by rw [unhide HS3]; omega)); have HS5 : Hid (N + 1 + 1 + 1 ≤ W5.heap.size) := (by have := hb.size; rw [unhide HS3] at this; exact this); clear hb HLO)
          | ((with_reducible refine wpList_store_ob (by rfl) (.tmp 4) (.tmp 30) (by rfl) (N + 1) ⟨#[]⟩ Sv.none 0 0 (by with_unfolding_all rfl) (by with_unfolding_all rfl) _ _ _ _ (unhide HX2) ?_); intro W7 HX7 HE7; simp only [Act.put])
          | fail)
        refine bodyPost_ret (results_cell_tmp rfl _ _ (N + 1) 33 #[.string ⟨#[]⟩, .slice none 0 0, .slice none 0 0] (0, 0) _ rfl (unhide HX7) obUnd rfl obInfo) rfl ?_
        refine ⟨Sv.none, 0, 0, rfl, rfl, rfl, OwnT.none _ _, by rw [unhide HE7]; exact belowRow (unhide HBU) (by omega) _, fun g hg => absurd hg (Sv.none_has _ _ _)⟩
    · have HE := hide (encT_no h2)
      have hc : ckE o = 110 := by unfold ckE; rw [if_pos h1, encT_no h2]; rfl
      rw [hc] at hno
      obtain ⟨rfl, rfl⟩ := hno (by decide)
      clear hgo hno hc h2 h1
      go_enter Try.func47, Try.ntmps47
      go_wp2_with (first
        | ((with_reducible refine wpList_box_ob (by rfl) (.tmp 0) (by rfl) (some 2) (by rfl) N (unhide HN) o.key v n m (by with_unfolding_all rfl) ?_); intro W1 HX1 HB1 HS1; simp only [Act.put, List.setIfInBounds_toArray, List.set_cons_zero, List.set_cons_succ])
        | ((with_reducible refine wpList_alloc_ob (by rfl) (by rfl) (some 4) (by rfl) (N + 1) (unhide HS1).symm ?_); intro W2 HX2 HB2 HS2; simp only [Act.put, List.setIfInBounds_toArray, List.set_cons_zero, List.set_cons_succ])
        | ((with_reducible refine wpList_alloc_ob (by rfl) (by rfl) (some 6) (by rfl) (N + 1 + 1) (unhide HS2).symm ?_); intro W3 HX3 HB3 HS3; simp only [Act.put, List.setIfInBounds_toArray, List.set_cons_zero, List.set_cons_succ]; have HBU : Hid (Below N u W3) := (unhide HB1).trans (((unhide HB2).mono (Nat.le_succ _)).trans ((unhide HB3).mono (by omega))); have HLO : Hid (Lo W3 N o v n m) := ⟨(unhide HO).below (unhide HU _ (unhide HBU)), ((unhide HB3).block N (by omega)).trans (((unhide HB2).block N (Nat.lt_succ_self _)).trans (unhide HX1))⟩; replace HX2 : Hid (W3.heap[N + 1]? = _) := ((unhide HB3).block (N + 1) (Nat.lt_succ_self _)).trans (unhide HX2); obtain ⟨c0, c1, c2⟩ := (unhide HLO).cells; obtain ⟨d0, d1, d2⟩ := ob_cells (unhide HX3); clear HX1 HB1 HB2 HB3)
        | (go_at_call 12; refine (oKey o.key _).mono ?_; rintro e W4 ⟨rfl, rfl⟩; rw [unhide HK])
        | (go_at_call 87; refine (kvEncode (unhide HE) (unhide HLO).toSx).mono ?_; rintro e W5 ⟨rfl, hb⟩; clear c0 c1 c2; clear d0 d1 d2; replace HX2 := hide (box_below (unhide HX2) hb); replace HX3 := hide (box_below (unhide HX3) hb); obtain ⟨d0, d1, d2⟩ := ob_cells (unhide HX3); replace HBU : Hid (Below N u W5) := (unhide HBU).trans (hb.mono (by rw [unhide HS3]; omega)); have HS5 : Hid (N + 1 + 1 + 1 ≤ W5.heap.size) := (by have := hb.size; rw [unhide HS3] at this; exact this); clear hb HLO)
        | ((with_reducible refine wpList_store_ob (by rfl) (.tmp 4) (.tmp 25) (by rfl) (N + 1) ⟨#[]⟩ Sv.none 0 0 (by with_unfolding_all rfl) (by with_unfolding_all rfl) _ _ _ _ (unhide HX2) ?_); intro W7 HX7 HE7; simp only [Act.put])
        | fail)
      refine bodyPost_ret (results_cell_tmp rfl _ _ (N + 1) 33 #[.string ⟨#[]⟩, .slice none 0 0, .slice none 0 0] (0, 0) _ rfl (unhide HX7) obUnd rfl obInfo) rfl ?_
      refine ⟨Sv.none, 0, 0, rfl, rfl, rfl, OwnT.none _ _, by rw [unhide HE7]; exact belowRow (unhide HBU) (by omega) _, fun g hg => absurd hg (Sv.none_has _ _ _)⟩
  · have hk : keyE o.key = 130 := by
      unfold keyE at h1 ⊢
      by_cases h : 1 ≤ o.key.size ∧ o.key.size ≤ 32
      · rw [if_pos h] at h1; exact absurd rfl h1
      · rw [if_neg h]
    have HK := hide hk
    have hc : ckE o = 130 := by unfold ckE; rw [if_neg h1, hk]
    rw [hc] at hno
    obtain ⟨rfl, rfl⟩ := hno (by decide)
    clear hgo hno hc h1 hk
    go_enter Try.func47, Try.ntmps47
    go_wp2_with (first
      | ((with_reducible refine wpList_box_ob (by rfl) (.tmp 0) (by rfl) (some 2) (by rfl) N (unhide HN) o.key v n m (by with_unfolding_all rfl) ?_); intro W1 HX1 HB1 HS1; simp only [Act.put, List.setIfInBounds_toArray, List.set_cons_zero, List.set_cons_succ])
      | ((with_reducible refine wpList_alloc_ob (by rfl) (by rfl) (some 4) (by rfl) (N + 1) (unhide HS1).symm ?_); intro W2 HX2 HB2 HS2; simp only [Act.put, List.setIfInBounds_toArray, List.set_cons_zero, List.set_cons_succ])
      | ((with_reducible refine wpList_alloc_ob (by rfl) (by rfl) (some 6) (by rfl) (N + 1 + 1) (unhide HS2).symm ?_); intro W3 HX3 HB3 HS3; simp only [Act.put, List.setIfInBounds_toArray, List.set_cons_zero, List.set_cons_succ]; have HBU : Hid (Below N u W3) := (unhide HB1).trans (((unhide HB2).mono (Nat.le_succ _)).trans ((unhide HB3).mono (by omega))); have HLO : Hid (Lo W3 N o v n m) := ⟨(unhide HO).below (unhide HU _ (unhide HBU)), ((unhide HB3).block N (by omega)).trans (((unhide HB2).block N (Nat.lt_succ_self _)).trans (unhide HX1))⟩; replace HX2 : Hid (W3.heap[N + 1]? = _) := ((unhide HB3).block (N + 1) (Nat.lt_succ_self _)).trans (unhide HX2); obtain ⟨c0, c1, c2⟩ := (unhide HLO).cells; obtain ⟨d0, d1, d2⟩ := ob_cells (unhide HX3); clear HX1 HB1 HB2 HB3)
      | (go_at_call 12; refine (oKey o.key _).mono ?_; rintro e W4 ⟨rfl, rfl⟩; rw [unhide HK])
      | ((with_reducible refine wpList_store_ob (by rfl) (.tmp 4) (.tmp 15) (by rfl) (N + 1) ⟨#[]⟩ Sv.none 0 0 (by with_unfolding_all rfl) (by with_unfolding_all rfl) _ _ _ _ (unhide HX2) ?_); intro W7 HX7 HE7; simp only [Act.put])
      | fail)
    refine bodyPost_ret (results_cell_tmp rfl _ _ (N + 1) 33 #[.string ⟨#[]⟩, .slice none 0 0, .slice none 0 0] (0, 0) _ rfl (unhide HX7) obUnd rfl obInfo) rfl ?_
    refine ⟨Sv.none, 0, 0, rfl, rfl, rfl, OwnT.none _ _, by rw [unhide HE7]; exact belowRow (unhide HBU) (by omega) _, fun g hg => absurd hg (Sv.none_has _ _ _)⟩
end Go.Proofs.Ytkcbljmjhlnjpaa
