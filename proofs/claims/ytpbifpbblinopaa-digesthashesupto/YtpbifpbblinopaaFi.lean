/- The fill behind a text: by the program and by the document. -/
import Derived.Test.YtpbifpbblinopaaHxM
import Derived.Test.YtpbifpbblinopaaShT
import Derived.Deep.OwnRows
import Derived.Deep.Heap
namespace Go.Proofs.Ytpbifpbblinopaa
open Go.RowKit

theorem be8_at (v j : Nat) (hj : j < 8) : (Sha.be8 v)[j]? = some (UInt8.ofNat (v / 256 ^ (7 - j))) := by
  have h : j = 0 ∨ j = 1 ∨ j = 2 ∨ j = 3 ∨ j = 4 ∨ j = 5 ∨ j = 6 ∨ j = 7 := by omega
  rcases h with rfl | rfl | rfl | rfl | rfl | rfl | rfl | rfl <;> first | rfl | simp [Sha.be8]
theorem fill_length (n : Nat) : (Sha.fill n).length = (119 - n % 64) % 64 + 9 := by simp [Sha.fill, Sha.be8]
def slen : Value → Nat
  | .slice _ n _ => n
  | _ => 0
theorem ownB_lit (w : World) (b : UInt8) : OwnB w (w.alloc (.cells #[.int .u8 b.toNat] 5)) (.slice (some ⟨w.heap.size, 0, none⟩) 1 1) [b] :=
  ⟨⟨rfl, .inr ⟨w.heap.size, 1, _, rfl, Nat.le_refl _, heap_alloc_new _ _, Nat.le_refl _, by unfold maxLen; decide, rfl, rfl⟩⟩, (Below.refl _ _).alloc (Nat.le_refl _) _⟩
set_option maxRecDepth 100000 in
set_option maxHeartbeats 1000000 in
theorem mFill (n : Nat) (w : World) (hn : n < 18446744073709551616) :
    Calls Try.prog 18 #[.int .u64 n] w fun e w' => ∃ v, e = .returned v ∧ OwnB w w' v (Sha.fill n) := by
  obtain ⟨i0, hi, hz0, hz1, hz2⟩ := info_parts infoU8
  obtain ⟨r, hr⟩ : ∃ r, r = n % 64 := ⟨_, rfl⟩
  have hrn : (n : Int) % 64 = (r : Int) := by omega
  have hr64 : r < 64 := by omega
  obtain ⟨B, hB⟩ : ∃ B, B = 8 * n % 18446744073709551616 := ⟨_, rfl⟩
  have hBi : 8 * (n : Int) % 18446744073709551616 = (B : Int) := by omega
  have hBw : IntKind.u64.wrap (8 * (n : Int)) = (B : Int) := by rw [IntKind.wrap_u64]; exact hBi
  have hBl : B < 18446744073709551616 := by omega
  have HF : Hid (Sha.fill n = 128 :: (List.replicate ((119 - r) % 64) 0 ++ Sha.be8 B)) := by
    show Sha.fill n = _
    rw [Sha.fill, ← hr, ← hB]
  clear hr hB
  go_enter Try.func18, Try.ntmps18
  go_wp2
  go_loopw [3] (fun y wr => ∃ (k : Nat) (ao : Option Addr) (cap : Nat), k ≤ (119 - r) % 64 ∧ y = .slice ao (k + 1) cap ∧ Hid (OwnB w wr (.slice ao (k + 1) cap) (128 :: List.replicate k 0))) (fun y _ => 64 - slen y)
  case atStart => exact ⟨0, _, _, Nat.zero_le _, rfl, hide (ownB_lit w 128)⟩
  case round =>
    obtain ⟨k, ao, cap, hk, rfl, HI⟩ := hrel
    have HO : Hid (wr.ownsRow w.heap.size 5 1 (.slice ao (k + 1) cap) (k + 1) (Lib.byteCells (128 :: List.replicate k 0))) := by
      have := (unhide HI).1
      rw [List.length_cons, List.length_replicate] at this
      exact this
    by_cases hlt : k < (119 - r) % 64
    · have hb : (((r : Int) + ((k : Int) + 1) + 8) % 64 != 0) = true := by rw [bne_iff_ne]; omega
      have hk64 : k < 63 := by omega
      have HK := hide hlt
      clear hk hlt
      go_wp2_with (at_builtin; refine wpList_put _ rfl (.tmp 16) (.tmp 17) 24 rfl w.heap.size 5 i0 (.int .u8 0) 1 1 Try.underlying24 hi hz0 hz1 hz2 rfl (by decide) _ _ _ rfl ((unhide HO).alloc _) ⟨wr.heap.size, 0, none⟩ 1 1 [.int .u8 0] rfl rfl ?c1 ?c2 ?c3 ?c4 ?c5 ?_)
      case c1 => intro j u hj; match j, hj with | 0, hj => simp at hj; subst hj; simp [Addr.add]
      case c2 => intro u hu; simp at hu; subst hu; rfl
      case c3 => unfold maxLen; omega
      case c4 => omega
      case c5 => have := (unhide HI).2.size; simp; omega
      intro v' w1 hown' hg' _
      have HN := hide (OwnB.grow (news := [0]) (unhide HI) ((unhide HI).2.alloc (unhide HI).2.size _) (xs := [.int .u8 0]) rfl (by rw [List.length_cons, List.length_replicate]; exact hown') hg')
      obtain ⟨ao', cap', rfl⟩ := owns_shape hown'
      clear hown' hg'
      go_wp2
      go_roundw
      case rel =>
        have h := unhide HK
        refine ⟨k + 1, ao', cap', h, rfl, hide ?_⟩
        have e : (128 :: List.replicate (k + 1) 0 : List UInt8) = (128 :: List.replicate k 0) ++ [0] := by rw [List.replicate_succ']; rfl
        rw [e]
        exact unhide HN
      case measure => simp [slen]; omega
    · have hkz : k = (119 - r) % 64 := by omega
      have hb : (((r : Int) + ((k : Int) + 1) + 8) % 64 != 0) = false := by rw [bne_eq_false_iff_eq]; omega
      have hk64 : k < 64 := by omega
      rw [← hkz] at HF
      clear hk hlt hkz
      go_wp2
      go_loopw [3, 5] (fun y i wq => ∃ (m : Nat) (ao : Option Addr) (cap : Nat), m ≤ 8 ∧ i = .int .i64 m ∧ y = .slice ao (k + 1 + m) cap ∧ Hid (OwnB w wq (.slice ao (k + 1 + m) cap) (128 :: List.replicate k 0 ++ (Sha.be8 B).take m))) (fun _ i _ => 8 - (intOf i).toNat)
      case atStart => exact ⟨0, ao, cap, Nat.zero_le _, rfl, rfl, hide (by simpa using unhide HI)⟩
      case round =>
        clear HI HO hb hrn hBi hBw
        obtain ⟨m, ao, cap, hm, rfl, rfl, HI⟩ := hrel
        have hlen : (128 :: List.replicate k 0 ++ (Sha.be8 B).take m).length = k + 1 + m := by
          rw [List.length_append, List.length_cons, List.length_replicate, List.length_take]
          have : (Sha.be8 B).length = 8 := rfl
          omega
        have HLN := hide hlen
        clear hlen
        by_cases hlt : m < 8
        · obtain ⟨p, hp⟩ : ∃ p, p = 56 - 8 * m := ⟨_, rfl⟩
          have hp1 : (56 : Int) - 8 * (m : Int) = (p : Int) := by omega
          have hp64 : p < 64 := by omega
          have HO : Hid (wr.ownsRow w.heap.size 5 1 (.slice ao (k + 1 + m) cap) (k + 1 + m) (Lib.byteCells (128 :: List.replicate k 0 ++ (Sha.be8 B).take m))) := by
            have := (unhide HI).1
            rw [unhide HLN] at this
            exact this
          have HV : Hid ((Sha.be8 B).take (m + 1) = (Sha.be8 B).take m ++ [UInt8.ofNat (B / 2 ^ p)]) := by
            show List.take _ _ = _
            have h8 := be8_at B m hlt
            have hl : m < (Sha.be8 B).length := hlt
            rw [List.take_succ_eq_append_getElem hl]
            rw [List.getElem?_eq_getElem hl] at h8
            rw [Option.some.inj h8, show 256 ^ (7 - m) = 2 ^ p from by rw [hp, show 56 - 8 * m = 8 * (7 - m) from by omega, Nat.pow_mul]]
          have hmi : (m : Int) < 8 := by omega
          have HVV : Hid ((B : Int) / 2 ^ p % 256 = ((UInt8.ofNat (B / 2 ^ p)).toNat : Int)) := by
            show (B : Int) / 2 ^ p % 256 = _
            rw [div_int]
            generalize B / 2 ^ p = q
            simp
          clear hp
          go_wp2_with (at_builtin; refine wpList_put _ rfl (.tmp 25) (.tmp 32) 24 rfl w.heap.size 5 i0 (.int .u8 0) 1 1 Try.underlying24 hi hz0 hz1 hz2 rfl (by decide) _ _ _ rfl ((unhide HO).alloc _) ⟨wr.heap.size, 0, none⟩ 1 1 [.int .u8 ((B : Int) / 2 ^ p % 256)] rfl rfl ?c1 ?c2 ?c3 ?c4 ?c5 ?_)
          case c1 => intro j u hj; match j, hj with | 0, hj => simp at hj; subst hj; simp [Addr.add]
          case c2 => intro u hu; simp at hu; subst hu; rfl
          case c3 => unfold maxLen; omega
          case c4 => omega
          case c5 => have := (unhide HI).2.size; simp; omega
          intro v' w1 hown' hg' _
          have HN := hide (OwnB.grow (news := [UInt8.ofNat (B / 2 ^ p)]) (unhide HI) ((unhide HI).2.alloc (unhide HI).2.size _) (xs := [.int .u8 ((B : Int) / 2 ^ p % 256)]) (by rw [show (B : Int) / 2 ^ p % 256 = _ from unhide HVV]; rfl) (by rw [unhide HLN]; exact hown') hg')
          obtain ⟨ao', cap', rfl⟩ := owns_shape hown'
          clear hown' hg'
          go_wp2
          go_roundw
          case rel =>
            refine ⟨m + 1, ao', cap', by omega, by go_num, rfl, hide ?_⟩
            rw [show (Sha.be8 B).take (m + 1) = _ from unhide HV, ← List.append_assoc]
            exact unhide HN
          case measure => simp [intOf]; omega
        · have hm8 : m = 8 := by omega
          subst hm8
          go_wp2
          go_ret
          refine ⟨_, rfl, ?_⟩
          rw [show Sha.fill n = _ from unhide HF]
          have := unhide HI
          rw [show (Sha.be8 B).take 8 = Sha.be8 B from rfl] at this
          exact this
end Go.Proofs.Ytpbifpbblinopaa
