/- The walk of WireReads: the loops. -/
import Derived.Test.YtpjepndeppckdaaReads
namespace Go.Proofs.Ytpjepndeppckdaa
open Go.RowKit Go.Lib

set_option maxRecDepth 100000 in
set_option maxHeartbeats 2000000 in
theorem reads_walk (s t : ByteArray) (ao : Option Addr) (len cap : Nat) (l : List It) (w : World) (hs : s.size ≤ 140737488355328) (ht : t.size ≤ 140737488355328) (hi : Its w ao len l) :
    Calls Try.prog 5 #[.string s, .string t, .slice ao len cap] w fun e w' => e = .returned (.bool true) ∧ Below w.heap.size w w' := by
  obtain ⟨hll, hlm, hok, hat⟩ := hi
  have HOK := hide hok
  have HAT := hide hat
  have HLL := hide hll
  clear hok hat hll
  go_enter Try.func5, Try.ntmps5
  go_wp2_with fail
  refine (rNew s _).mono ?_
  rintro e w1 ⟨rfl, rfl⟩
  go_wp2_with fail
  refine (rNew t _).mono ?_
  rintro e w1 ⟨rfl, rfl⟩
  go_wp2_with fail
  go_loopw [9] (fun i wr => ∃ (k p0 p1 : Nat) (e0 e1 : Int), k ≤ len ∧ i = .int .i64 k ∧ Hid (RW w wr s t p0 p1 e0 e1)) (fun i _ => len + 1 - (intOf i).toNat)
  case atStart => exact ⟨0, 0, 0, 0, 0, Nat.zero_le _, rfl, hide (RW.start w s t _ _ _ _ hs ht)⟩
  case round =>
    obtain ⟨k, p0, p1, e0, e1, hk, rfl, HI⟩ := hrel
    have hki : (k : Int) ≤ (len : Int) := by omega
    go_wp2
    go_loopw [10] (fun j wq => ∃ (i : Nat), i ≤ 2 ∧ j = .int .i64 i ∧ Hid (RW w wq s t p0 p1 e0 e1)) (fun j _ => 2 - (intOf j).toNat)
    case atStart => exact ⟨0, by omega, rfl, HI⟩
    case round =>
      obtain ⟨i, hi2, rfl, HJ⟩ := hrel
      clear HI
      by_cases hlt : i < 2
      · by_cases h0 : i = 0
        · subst h0
          obtain ⟨q1, q2, q3, c0, c1, c2, f1, f2⟩ := (unhide HJ).m0
          have hx := (unhide HJ).x0
          have hy := (unhide HJ).y0
          have hw : IntKind.i64.wrap ((s.size : Int) - (p0 : Int)) = (s.size : Int) - (p0 : Int) := by rw [IntKind.wrap_i64]; omega
          clear q1 f1 f2
          go_wp2
          go_quiet (first | (go_at_call 19; exact Calls.quiet_of_same (rAt w.heap.size s p0 e0 _ ((unhide HJ).r0.drewN _))) | (go_at_call 20; exact Calls.quiet_of (rLeft w.heap.size s p0 e0 _ ((unhide HJ).r0.drewN _))) | (go_at_call 21; exact Calls.quiet_of_same (rErr w.heap.size s p0 e0 _ ((unhide HJ).r0.drewN _))) | (go_at_call 22; exact Calls.quiet_of (rEnd w.heap.size s p0 e0 _ ((unhide HJ).r0.drewN _))) | (go_at_call 26; exact Calls.quiet_of (mEnd (w.heap.size + 1 + 1 + 1) s p0 e0 _ ((unhide HJ).m0.drewN _))))
          go_wp2
          go_roundw
          case rel => exact ⟨1, by omega, rfl, hide ((unhide HJ).drewN _)⟩
          case measure => simp [intOf]
        · have h1 : i = 1 := by omega
          subst h1
          clear h0
          obtain ⟨q1, q2, q3, c0, c1, c2, f1, f2⟩ := (unhide HJ).m1
          have hx := (unhide HJ).x1
          have hy := (unhide HJ).y1
          have hw : IntKind.i64.wrap ((t.size : Int) - (p1 : Int)) = (t.size : Int) - (p1 : Int) := by rw [IntKind.wrap_i64]; omega
          clear q1 f1 f2
          go_wp2
          go_quiet (first | (go_at_call 19; exact Calls.quiet_of_same (rAt (w.heap.size + 1) t p1 e1 _ ((unhide HJ).r1.drewN _))) | (go_at_call 20; exact Calls.quiet_of (rLeft (w.heap.size + 1) t p1 e1 _ ((unhide HJ).r1.drewN _))) | (go_at_call 21; exact Calls.quiet_of_same (rErr (w.heap.size + 1) t p1 e1 _ ((unhide HJ).r1.drewN _))) | (go_at_call 22; exact Calls.quiet_of (rEnd (w.heap.size + 1) t p1 e1 _ ((unhide HJ).r1.drewN _))) | (go_at_call 26; exact Calls.quiet_of (mEnd (w.heap.size + 1 + 1 + 1 + 1) t p1 e1 _ ((unhide HJ).m1.drewN _))))
          go_wp2
          go_roundw
          case rel => exact ⟨2, by omega, rfl, hide ((unhide HJ).drewN _)⟩
          case measure => simp [intOf]
      · have h2 : i = 2 := by omega
        subst h2
        clear hlt hi2
        by_cases hlt : k < len
        · obtain ⟨x, hx⟩ : ∃ x, l[k]? = some x := ⟨l[k]'(by rw [unhide HLL]; exact hlt), List.getElem?_eq_getElem _⟩
          have hxok := unhide HOK x (List.mem_of_getElem? hx)
          obtain ⟨ib, io, rfl, hib, hcells⟩ : ∃ b off, ao = some ⟨b, off, none⟩ ∧ b < w.heap.size ∧ x.At w b (off + k * 5) := by
            rcases unhide HAT with h | ⟨b, off, h1, h2, h3⟩
            · omega
            · exact ⟨b, off, h1, h2, h3 k x hx⟩
          have HCE := hide (fun u (h : Below w.heap.size w u) => hcells.below h hib)
          obtain ⟨x0, x1, x2, x3, x4⟩ := unhide HCE _ (unhide HJ).bel
          have hkl : (k : Int) < (len : Int) := by omega
          have hkn : ((k : Int) == (len : Int)) = false := by rw [beq_eq_false_iff_ne]; omega
          have HX := hide hxok
          clear hxok hx hcells
          by_cases hw : x.who = 0
          · have hwb : (x.who != 0) = false := by rw [hw]; rfl
            clear hw
            have hx := (unhide HJ).x0
            have hy := (unhide HJ).y0
            have HTK := hide (take_all x (unhide HX) w.heap.size (w.heap.size + 1 + 1 + 1) p0 s e0 wr.drew ((unhide HJ).drewN 1).r0 ((unhide HJ).drewN 1).m0 (by omega))
            go_wp2
            go_region_held3 (fun u => u.cell? ⟨w.heap.size + 1 + 1, 0, none⟩ = some (.pointer (some ⟨w.heap.size, 0, none⟩)) ∧ u.cell? ⟨w.heap.size + 1 + 1 + 1 + 1 + 1, 0, none⟩ = some (.pointer (some ⟨(w.heap.size + 1 + 1 + 1), 0, none⟩)) ∧ u.cell? ⟨ib, io + k * 5, none⟩ = some (.int .i64 x.who) ∧ u.cell? ⟨ib, io + k * 5 + 1, none⟩ = some (.int .i64 x.kind) ∧ u.cell? ⟨ib, io + k * 5 + 2, none⟩ = some (.int .i64 x.n) ∧ u.cell? ⟨ib, io + k * 5 + 3, none⟩ = some (.int .u64 x.v) ∧ u.cell? ⟨ib, io + k * 5 + 4, none⟩ = some (.string x.s)) (first | (go_keep; done) | exact ⟨zx, zy, z0, z1, z2, z3, z4⟩) (first | (go_at_call 27; refine (unhide HTK).mono ?_; rintro e w5 ⟨rfl, q, hbo⟩; have hrw := ((unhide HJ).drewN 1).take0 hbo; have zx := hrw.x0; have zy := hrw.y0; obtain ⟨z0, z1, z2, z3, z4⟩ := unhide HCE _ hrw.bel; have HN := hide hrw; clear hrw hbo))
            go_wp2
            go_roundw
            case rel => exact ⟨k + 1, _, p1, _, e1, by omega, by go_num, hide (unhide HN)⟩
            case measure => simp [intOf]; omega
          · have hwb : (x.who != 0) = true := by rw [bne_iff_ne]; exact hw
            clear hw
            have hx := (unhide HJ).x1
            have hy := (unhide HJ).y1
            have HTK := hide (take_all x (unhide HX) (w.heap.size + 1) (w.heap.size + 1 + 1 + 1 + 1) p1 t e1 wr.drew ((unhide HJ).drewN 1).r1 ((unhide HJ).drewN 1).m1 (by omega))
            go_wp2
            go_region_held3 (fun u => u.cell? ⟨w.heap.size + 1 + 1, 1, none⟩ = some (.pointer (some ⟨(w.heap.size + 1), 0, none⟩)) ∧ u.cell? ⟨w.heap.size + 1 + 1 + 1 + 1 + 1, 1, none⟩ = some (.pointer (some ⟨(w.heap.size + 1 + 1 + 1 + 1), 0, none⟩)) ∧ u.cell? ⟨ib, io + k * 5, none⟩ = some (.int .i64 x.who) ∧ u.cell? ⟨ib, io + k * 5 + 1, none⟩ = some (.int .i64 x.kind) ∧ u.cell? ⟨ib, io + k * 5 + 2, none⟩ = some (.int .i64 x.n) ∧ u.cell? ⟨ib, io + k * 5 + 3, none⟩ = some (.int .u64 x.v) ∧ u.cell? ⟨ib, io + k * 5 + 4, none⟩ = some (.string x.s)) (first | (go_keep; done) | exact ⟨zx, zy, z0, z1, z2, z3, z4⟩) (first | (go_at_call 27; refine (unhide HTK).mono ?_; rintro e w5 ⟨rfl, q, hbo⟩; have hrw := ((unhide HJ).drewN 1).take1 hbo; have zx := hrw.x1; have zy := hrw.y1; obtain ⟨z0, z1, z2, z3, z4⟩ := unhide HCE _ hrw.bel; have HN := hide hrw; clear hrw hbo))
            go_wp2
            go_roundw
            case rel => exact ⟨k + 1, p0, _, e0, _, by omega, by go_num, hide (unhide HN)⟩
            case measure => simp [intOf]; omega
        · have hke : k = len := by omega
          subst hke
          go_wp2
          go_ret
          exact ⟨rfl, (unhide HJ).bel⟩
end Go.Proofs.Ytpjepndeppckdaa
