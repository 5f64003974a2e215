/- JournalWhole: what a round leaves of a disk. Of no program but for names, and mod. -/
import Derived.Test.YtfdfbjijomepgaaDoorJaw
namespace Go.Proofs.YtfdfbjijomepgaaDoor
open Go.RowKit

theorem lModA (n lo hi : Int) (h0 : 0 ≤ lo) (h1 : lo < hi) (h2 : hi ≤ 1000) : ∃ r : Nat, lo ≤ r ∧ (r : Int) ≤ hi ∧ ∀ w : World, Calls Tryd.prog 15 #[.int .i64 n, .int .i64 lo, .int .i64 hi] w fun e w' => e = .returned (.int .i64 (r : Int)) ∧ w' = w := by
  have ht1 : n.tmod (hi - lo + 1) < hi - lo + 1 := Int.tmod_lt_of_pos n (by omega)
  have ht2 : -(hi - lo + 1) < n.tmod (hi - lo + 1) := Int.lt_tmod_of_pos n (by omega)
  by_cases hc : n.tmod (hi - lo + 1) < 0
  · refine ⟨(lo + (n.tmod (hi - lo + 1) + hi - lo + 1)).toNat, by omega, by omega, fun w => ?_⟩
    rw [Int.toNat_of_nonneg (by omega)]
    go_enter Tryd.func15, Tryd.ntmps15
    go_wp2
    go_ret
    exact ⟨rfl, rfl⟩
  · refine ⟨(lo + n.tmod (hi - lo + 1)).toNat, by omega, by omega, fun w => ?_⟩
    rw [Int.toNat_of_nonneg (by omega)]
    go_enter Tryd.func15, Tryd.ntmps15
    go_wp2
    go_ret
    exact ⟨rfl, rfl⟩
theorem landed_eq {a b : D.Dk} (h1 : a.lies = b.lies) (h2 : a.pend = b.pend) (sh : Nat → Nat) : ∀ i, a.landed sh i = b.landed sh i
  | 0 => h1
  | i + 1 => by simp only [D.Dk.landed, landed_eq h1 h2 sh i, h2]
section
variable {d : D.Dk} {f c s : Nat} {l : List Pg}
/-- Put with any fuse -/
def PutAny (d : D.Dk) (f s : Nat) (l : List Pg) (x e : Int) (d' : D.Dk) : Prop :=
  (e = 0 ∧ d'.lies = (okPut d f s l).lies ∧ d'.pend = [] ∧ d'.off = false) ∨ (0 ≤ x ∧ e = 40 ∧ ∃ j, j ≤ l.length + 1 ∧ d' = ⟨d.lies, pendK f s l j, true, 0⟩)
theorem put_any (h : Lit d) (x : Int) (hc : 1 ≤ c) (hP : f + c ≤ d.lies.length) (hw : wrongOk s l (roomN c : Nat)) : ∃ e d', putJ (d.fused x) (f : Int) (c : Int) s l = (e, d') ∧ PutAny d f s l x e d' := by
  have hn : l.length ≤ 198 ∧ l.length + 1 ≤ c := by
    have h1 := hw.2.2.1
    have h3 : roomN c ≤ 198 ∧ roomN c + 1 ≤ c := by unfold roomN; omega
    omega
  have hF : d.fused x = ⟨d.lies, [], false, max x (-1)⟩ := by rw [D.Dk.fused, h.off, if_neg (by simp), h.pend]
  rw [hF, putJ, refJ_zero hc hP, if_neg (by simp), room_nat, wrongB_zero hw, if_neg (by simp), Int.toNat_natCast]
  have hsb : ∀ q (hq : q < l.length), (slotP f s q (l.getD q ⟨0, 0, 0, ⟨#[]⟩⟩)).body.size ≤ 996 := fun q hq => by
    rw [List.getD_eq_getElem?_getD, List.getElem?_eq_getElem hq]
    exact hw.2.2.2.2 l[q] (List.getElem_mem hq)
  have hr := put_ran (d := ⟨d.lies, [], false, max x (-1)⟩) (c := c) (f := f) (s := s) (l := l) rfl rfl rfl (fun q hq => ⟨by show f + 1 + q < d.lies.length; omega, enc_len _ (hsb q hq)⟩) ⟨by show f < d.lies.length; omega, enc_len _ (by show (⟨(listB l).toArray⟩ : ByteArray).size ≤ 996; rw [ba_size]; exact listB_len l hn.1)⟩ rfl
  rcases hr with ⟨e, _⟩ | ⟨j, hj, e, hx⟩
  · rw [e]
    refine ⟨_, _, rfl, .inl ⟨rfl, ?_, rfl, rfl⟩⟩
    show (D.Dk.landed _ _ _) = (D.Dk.landed _ _ _)
    rw [pendK_len]
    refine landed_eq ?_ ?_ _ _
    · rfl
    · rfl
  · rw [e]
    exact ⟨_, _, rfl, .inr ⟨by have hx : (0 : Int) ≤ max x (-1) := hx; omega, rfl, j, hj, rfl⟩⟩
/-- what a round leaves -/
structure After (d : D.Dk) (f c s : Nat) (l : List Pg) (e : Int) (d2 : D.Dk) : Prop where
  pend : d2.pend = []
  off : d2.off = false
  fuse : d2.fuse = -1
  len : d2.lies.length = d.lies.length
  other : ∀ x, x < f ∨ f + l.length < x → d.lies.getD x [] = d2.lies.getD x []
  stp : ∃ ms, Stp (pgOf d.lies) (pgOf d2.lies) f c s l ms
  full : e = 0 → Stp (pgOf d.lies) (pgOf d2.lies) f c s l (fun _ => 1024)
theorem after_ok {d2 : D.Dk} (hP : f + c ≤ d.lies.length) (hn : l.length + 1 ≤ c) (e : Int) (h1 : d2.lies = (okPut d f s l).lies) (h2 : d2.pend = []) (h3 : d2.off = false) (h4 : d2.fuse = -1) : After d f c s l e d2 where
  pend := h2
  off := h3
  fuse := h4
  len := by rw [h1]; exact okPut_len _ _ _ _
  other x hx := by rw [h1]; exact (okPut_other d f s l x hx).symm
  stp := ⟨_, by rw [h1]; exact okPut_stp hP hn⟩
  full _ := by rw [h1]; exact okPut_stp hP hn
theorem after_crash {d' : D.Dk} {x e : Int} (hP : f + c ≤ d.lies.length) (hn : l.length + 1 ≤ c) (h : PutAny d f s l x e d') (sh : Nat → Nat) (hs : ∀ i, sh i % 8 = 0 ∧ sh i ≤ 1024) : After d f c s l e (d'.crash sh) := by
  rcases h with ⟨rfl, h1, h2, h3⟩ | ⟨_, rfl, j, hj, rfl⟩
  · refine after_ok hP hn 0 ?_ rfl rfl rfl
    show d'.landed sh d'.pend.length = _
    rw [h2]
    exact h1
  · refine ⟨rfl, rfl, rfl, ?_, fun x hx => ?_, ?_, fun h => by cases h⟩
    · exact D.Dk.landed_length _ _ _
    · show _ = (D.Dk.landed _ sh (pendK f s l j).length).getD x []
      rw [pendK_len]
      exact (land_other x hj hx).symm
    · refine ⟨shares l.length j sh, ?_⟩
      show Stp _ (pgOf (D.Dk.landed _ sh (pendK f s l j).length)) f c s l _
      rw [pendK_len]
      exact land_stp hj hP hn hs
theorem after_calm {d' : D.Dk} {x : Int} (hP : f + c ≤ d.lies.length) (hn : l.length + 1 ≤ c) (h : PutAny d f s l x 0 d') : After d f c s l 0 (d'.fused (-1)) := by
  rcases h with ⟨_, h1, h2, h3⟩ | ⟨_, h0, _⟩
  · have e : d'.fused (-1) = ⟨d'.lies, [], false, -1⟩ := by rw [D.Dk.fused, h3, if_neg (by simp), h2]; rfl
    rw [e]
    exact after_ok hP hn 0 h1 rfl rfl rfl
  · cases h0
end
end Go.Proofs.YtfdfbjijomepgaaDoor
