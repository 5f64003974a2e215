/- The fuse: what a step does to it. -/
import Derived.Test.YtfdibmbffmgikaaKq
namespace Go.Proofs.Ytfdibmbffmgikaa
open Go.RowKit Go.Lib

theorem Dk.write_off {d : Dk} (h : d.off = true) (x : Int) (bs : List UInt8) : d.write x bs = (40, d) := by
  have e : d.refused x = 40 := by rw [Dk.refused, h, if_pos rfl]
  unfold Dk.write
  rw [e, if_pos (by decide)]
theorem Dk.write_out {d : Dk} (h : d.off = false) {x : Int} (hx : x < 0 ∨ (d.lies.length : Int) ≤ x) (bs : List UInt8) : d.write x bs = (1, d) := by
  have e : d.refused x = 1 := by rw [Dk.refused, h, if_neg (by decide), if_neg (by omega)]
  unfold Dk.write
  rw [e, if_pos (by decide)]
theorem Dk.write_len {d : Dk} (h : d.off = false) {x : Int} (h0 : 0 ≤ x) (h1 : x < (d.lies.length : Int)) {bs : List UInt8} (hb : bs.length ≠ 1024) : d.write x bs = (1, d) := by
  have e : d.refused x = 0 := by rw [Dk.refused, h, if_neg (by decide), if_pos ⟨h0, h1⟩]
  unfold Dk.write
  rw [if_neg (fun h => h e), if_pos hb]
theorem Dk.write_blow {d : Dk} (h : d.off = false) {x : Int} (h0 : 0 ≤ x) (h1 : x < (d.lies.length : Int)) {bs : List UInt8} (hb : bs.length = 1024) (hf : d.fuse = 0) : d.write x bs = (40, d.asked) := by
  have e : d.refused x = 0 := by rw [Dk.refused, h, if_neg (by decide), if_pos ⟨h0, h1⟩]
  unfold Dk.write
  rw [if_neg (fun h => h e), if_neg (fun h => h hb), if_pos hf]
theorem Dk.write_done {d : Dk} (h : d.off = false) {x : Int} (h0 : 0 ≤ x) (h1 : x < (d.lies.length : Int)) {bs : List UInt8} (hb : bs.length = 1024) (hf : d.fuse ≠ 0) : d.write x bs = (0, d.asked.put x.toNat bs) := by
  have e : d.refused x = 0 := by rw [Dk.refused, h, if_neg (by decide), if_pos ⟨h0, h1⟩]
  unfold Dk.write
  rw [if_neg (fun h => h e), if_neg (fun h => h hb), if_neg hf]
theorem Dk.sync_off {d : Dk} (h : d.off = true) : d.sync = (40, d) := by unfold Dk.sync; rw [h, if_pos rfl]
theorem Dk.sync_blow {d : Dk} (h : d.off = false) (hf : d.fuse = 0) : d.sync = (40, d.asked) := by unfold Dk.sync; rw [h, if_neg (by decide), if_pos hf]
theorem Dk.sync_done {d : Dk} (h : d.off = false) (hf : d.fuse ≠ 0) : d.sync = (0, d.asked.settle fun _ => 1024) := by unfold Dk.sync; rw [h, if_neg (by decide), if_neg hf]
/-- the law's own count beside the disk's -/
structure FR (n : Int) (P k : Nat) (left : Int) (off : Bool) (d : Dk) : Prop where
  off' : d.off = off
  len : d.lies.length = P
  pend : d.pend.length ≤ k
  pos : 0 ≤ n → d.fuse = left ∧ 0 ≤ left ∧ left ≤ n
  neg : n < 0 → d.fuse = -1 ∧ off = false ∧ ∃ j : Nat, j ≤ k ∧ left = wrap64 (n - j)
section
variable {n left : Int} {P k : Nat} {off : Bool} {d : Dk}
theorem FR.same (h : FR n P k left off d) : FR n P (k + 1) left off d :=
  ⟨h.off', h.len, by have := h.pend; omega, h.pos, fun hn => by obtain ⟨h1, h2, j, h3, h4⟩ := h.neg hn; exact ⟨h1, h2, j, by omega, h4⟩⟩
theorem wrap_ne (n : Int) (j : Nat) (h0 : -9223372036854775808 ≤ n) (h1 : n < 0) (hj : j ≤ 1048576) : wrap64 (n - j) ≠ 0 := by
  unfold wrap64
  omega
theorem FR.fuse_zero (h : FR n P k 0 off d) (hn : -9223372036854775808 ≤ n) (hk : k ≤ 1048576) : d.fuse = 0 ∧ 0 ≤ n := by
  by_cases h0 : 0 ≤ n
  · exact ⟨(h.pos h0).1, h0⟩
  · obtain ⟨_, _, j, h3, h4⟩ := h.neg (by omega)
    exact absurd h4.symm (wrap_ne n j hn (by omega) (by omega))
theorem FR.fuse_ne (h : FR n P k left off d) (hl : left ≠ 0) : d.fuse ≠ 0 := by
  by_cases h0 : 0 ≤ n
  · rw [(h.pos h0).1]; exact hl
  · rw [(h.neg (by omega)).1]; decide
theorem FR.blown (h : FR n P k 0 false d) (hn : -9223372036854775808 ≤ n) (hk : k ≤ 1048576) : FR n P (k + 1) 0 true d.asked := by
  obtain ⟨h1, h2⟩ := h.fuse_zero hn hk
  have e : d.asked = ⟨d.lies, d.pend, true, d.fuse⟩ := by unfold Dk.asked; rw [if_pos h1]
  rw [e]
  exact ⟨rfl, h.len, by have := h.pend; show d.pend.length ≤ _; omega, fun h0 => ⟨h1, by omega, by omega⟩, fun hx => by omega⟩
theorem Dk.asked_off (d : Dk) (hf : d.fuse ≠ 0) : d.asked.off = d.off := by
  unfold Dk.asked
  rw [if_neg hf]
  split <;> rfl
theorem FR.ask (h : FR n P k left false d) (hn : -9223372036854775808 ≤ n) (hn2 : n ≤ 9223372036854775807) (hl : left ≠ 0) (l p) (hl' : l.length = d.lies.length) (hp : p.length ≤ k + 1) : FR n P (k + 1) (wrap64 (left - 1)) false ⟨l, p, d.asked.off, d.asked.fuse⟩ := by
  have hf := h.fuse_ne hl
  refine ⟨by rw [← h.off']; exact d.asked_off hf, by rw [← h.len]; exact hl', hp, fun h0 => ?_, fun h0 => ?_⟩
  · obtain ⟨h1, h2, h3⟩ := h.pos h0
    have hw : wrap64 (left - 1) = left - 1 := by unfold wrap64; omega
    have e : d.asked.fuse = d.fuse - 1 := by unfold Dk.asked; rw [if_neg hf, if_pos (by omega)]
    show d.asked.fuse = _ ∧ _
    rw [hw, e]
    omega
  · obtain ⟨h1, _, j, h3, h4⟩ := h.neg h0
    have e : d.asked.fuse = d.fuse := by unfold Dk.asked; rw [if_neg hf, if_neg (by omega)]
    refine ⟨by show d.asked.fuse = -1; rw [e, h1], rfl, j + 1, by omega, ?_⟩
    rw [h4]
    unfold wrap64
    omega
theorem FR.put (h : FR n P k left false d) (hn : -9223372036854775808 ≤ n) (hn2 : n ≤ 9223372036854775807) (hl : left ≠ 0) (m : Nat) (bs : List UInt8) : FR n P (k + 1) (wrap64 (left - 1)) false (d.asked.put m bs) :=
  h.ask hn hn2 hl d.asked.lies (d.asked.pend ++ [(m, bs)]) (by rw [d.asked_lies]) (by rw [d.asked_pend]; have := h.pend; simp; omega)
theorem FR.settle (h : FR n P k left false d) (hn : -9223372036854775808 ≤ n) (hn2 : n ≤ 9223372036854775807) (hl : left ≠ 0) (s : Nat → Nat) : FR n P (k + 1) (wrap64 (left - 1)) false (d.asked.settle s) :=
  h.ask hn hn2 hl (d.asked.landed s d.asked.pend.length) [] (by rw [Dk.landed_length, d.asked_lies]) (Nat.zero_le _)
end
theorem zStep : ((Try.prog.info? 47).bind (·.zero)).map (·.cells) = some (St.cs ⟨0, 0, .empty, false, none, [], 0, 0, 0⟩) := by kernel_rfl
theorem stepInfo : (Try.prog.info? 47).map (·.size) = some 7 := by kernel_rfl
theorem stepUnd : Try.prog.underlying 47 = some (.struct (match Try.prog.underlying 47 with | some (.struct fs) => fs | _ => #[])) := by kernel_rfl
theorem ixSteps (g o n c i : Nat) (hi : i < n) (W : World) : (Instr.indexAt 38 (.slice (some ⟨g, o, none⟩) n c) (.int .i64 (i : Int))).run Try.prog W = .ok (.pointer (some ⟨g, o + i * 7, none⟩)) W := by
  have he : Try.prog.elem 38 = 47 := by kernel_rfl
  rw [run_indexAt_slice W 38 _ _ _ _ _ (by rw [he]; kernel_rfl), if_pos ⟨by omega, by omega⟩, he, size_of stepInfo]
  simp only [Result.andThen_ok, Int.toNat_natCast, Addr.add_mid]
theorem St.At.range {x : St} {W : World} {b o : Nat} (h : x.At W b o) : W.rangeAt b o x.cs.toList := fun j v hv => by
  have hj : j < 7 := by have := (List.getElem?_eq_some_iff.1 hv).1; simpa [St.cs] using this
  rw [h j hj, ← hv, Array.getElem?_toList]
theorem St.cs_size (x : St) : x.cs.size = 7 := rfl
theorem St.cs_one (x : St) : x.cs.all (·.oneCell') = true := by simp [St.cs, Value.oneCell']
end Go.Proofs.Ytfdibmbffmgikaa
