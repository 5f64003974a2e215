/- Hexadecimal digits back, by the document and by the program. -/
import Derived.Test.YtpbifpbblinopaaHxM
import Derived.Deep.OwnRows
import Derived.Deep.Heap
namespace Go.Proofs.Ytpbifpbblinopaa
open Go.RowKit

/-- the byte of two digits -/
def vb (c : Nat → Nat) (j : Nat) : Nat := 16 * (dg (c (2 * j))).toNat + (dg (c (2 * j + 1))).toNat
def good (c : Nat → Nat) (n : Nat) : Prop := n % 2 = 0 ∧ ∀ j, j < n → 0 ≤ dg (c j)
instance (c : Nat → Nat) (n : Nat) : Decidable (good c n) := inferInstanceAs (Decidable (_ ∧ _))
def val (c : Nat → Nat) (k : Nat) : List UInt8 := (List.range k).map fun j => UInt8.ofNat (vb c j)
/-- what FromHex tells -/
def fromR (c : Nat → Nat) (n : Nat) : List UInt8 × Int := if good c n then (val c (n / 2), 0) else ([], 4)
def ch (s : ByteArray) (j : Nat) : Nat := (s.data.toList.getD j 0).toNat
theorem ch_at (s : ByteArray) (j : Nat) (h : j < s.size) : ch s j = s[j].toNat := by
  have : j < s.data.toList.length := by simpa using h
  unfold ch
  rw [List.getD_eq_getElem?_getD, List.getElem?_eq_getElem this]
  rfl
theorem ch_lt (s : ByteArray) (j : Nat) : ch s j < 256 := UInt8.toNat_lt _
theorem val_succ (c : Nat → Nat) (k : Nat) : val c (k + 1) = val c k ++ [UInt8.ofNat (vb c k)] := by simp [val, List.range_succ]
theorem val_length (c : Nat → Nat) (k : Nat) : (val c k).length = k := by simp [val]
theorem vb_lt (c : Nat → Nat) (j : Nat) : vb c j < 256 := by
  have h1 := dg_lt (c (2 * j)); have h2 := dg_lt (c (2 * j + 1))
  unfold vb; omega
set_option maxRecDepth 100000 in
set_option maxHeartbeats 1000000 in
theorem mFromHex (s : ByteArray) (w : World) (hs : s.size ≤ 140737488355328) :
    Calls Try.prog 33 #[.string s] w fun e w' => e = .returned (.tuple #[.string ⟨(fromR (ch s) s.size).1.toArray⟩, .int .i64 (fromR (ch s) s.size).2]) ∧ Below w.heap.size w w' := by
  obtain ⟨i0, hi, hz0, hz1, hz2⟩ := info_parts infoU8
  obtain ⟨R, hR⟩ : ∃ R, R = fromR (ch s) s.size := ⟨_, rfl⟩
  rw [← hR]
  have HR := hide hR
  clear hR
  by_cases hodd : s.size % 2 = 0
  · have hb0 : ((s.size : Int) % 2 != 0) = false := by rw [bne_eq_false_iff_eq]; omega
    go_enter Try.func33, Try.ntmps33
    go_wp2
    go_loopw [4, 5] (fun y i wr => ∃ (k : Nat) (ao : Option Addr) (cap : Nat), 2 * k ≤ s.size ∧ i = .int .i64 ((2 * k : Nat) : Int) ∧ y = .slice ao k cap ∧ Hid (OwnB w wr (.slice ao k cap) (val (ch s) k) ∧ ∀ j, j < 2 * k → 0 ≤ dg (ch s j))) (fun _ i _ => s.size + 1 - (intOf i).toNat)
    case atStart => exact ⟨0, none, 0, Nat.zero_le _, rfl, rfl, hide ⟨⟨World.ownsRow_nil _ _ _ _, Below.refl _ _⟩, fun j hj => absurd hj (by omega)⟩⟩
    case round =>
      obtain ⟨k, ao, cap, hk, rfl, rfl, HI⟩ := hrel
      clear hb0
      obtain ⟨p, hp⟩ : ∃ p, p = 2 * k := ⟨_, rfl⟩
      rw [← hp] at hk ⊢
      obtain ⟨p1, hp1e⟩ : ∃ q, q = p + 1 := ⟨_, rfl⟩
      by_cases hlt : p < s.size
      · have hp1 : p1 < s.size := by omega
        have hpi : (p : Int) < (s.size : Int) := by omega
        have hpi1 : (p1 : Int) < (s.size : Int) := by omega
        have hx := s[p].toNat_lt
        have hy := s[p1].toNat_lt
        have M1 := hide (fun u => mDigit s[p].toNat u hx)
        have M2 := hide (fun u => mDigit s[p1].toNat u hy)
        have hc1 := ch_at s p hlt
        have hc2 := ch_at s p1 hp1
        have he1 : (p : Int) + 1 = (p1 : Int) := by omega
        have hd1 := dg_lt s[p].toNat
        have hd2 := dg_lt s[p1].toNat
        have hBad : Hid (dg s[p].toNat < 0 ∨ dg s[p1].toNat < 0 → R = ([], 4)) := by
          intro h
          rw [unhide HR, fromR, if_neg]
          rintro ⟨_, h2⟩
          have h3 := h2 p hlt
          have h4 := h2 p1 hp1
          rw [hc1] at h3; rw [hc2] at h4
          omega
        have hVal : Hid (val (ch s) (k + 1) = val (ch s) k ++ [UInt8.ofNat (16 * (dg s[p].toNat).toNat + (dg s[p1].toNat).toNat)]) := by
          show val _ _ = _
          rw [val_succ, vb, ← hp, ← hp1e, hc1, hc2]
        have hAll : Hid (0 ≤ dg s[p].toNat → 0 ≤ dg s[p1].toNat → ∀ j, j < 2 * (k + 1) → 0 ≤ dg (ch s j)) := by
          intro h1 h2 j hj
          by_cases hj1 : j < 2 * k
          · exact (unhide HI).2 j hj1
          · by_cases hj2 : j = p
            · rw [hj2, hc1]; exact h1
            · rw [show j = p1 from by omega, hc2]; exact h2
        have HP := hide hp
        have HP1 := hide hp1e
        clear hx hy hc1 hc2 hp hp1e
        generalize dg s[p].toNat = d1 at *
        generalize dg s[p1].toNat = d2 at *
        by_cases h1 : d1 < 0
        · have HE := hide (unhide hBad (.inl h1))
          go_wp2_with fail
          refine (unhide M1 _).mono ?_
          rintro e w1 ⟨rfl, rfl⟩
          go_wp2_with fail
          refine (unhide M2 _).mono ?_
          rintro e w1 ⟨rfl, rfl⟩
          go_wp2
          go_ret2
          exact ⟨by rw [unhide HE]; rfl, (unhide HI).1.2⟩
        · by_cases h2 : d2 < 0
          · have HE := hide (unhide hBad (.inr h2))
            go_wp2_with fail
            refine (unhide M1 _).mono ?_
            rintro e w1 ⟨rfl, rfl⟩
            go_wp2_with fail
            refine (unhide M2 _).mono ?_
            rintro e w1 ⟨rfl, rfl⟩
            go_wp2
            go_ret2
            exact ⟨by rw [unhide HE]; rfl, (unhide HI).1.2⟩
          · obtain ⟨D1, rfl⟩ := Int.eq_ofNat_of_zero_le (by omega : 0 ≤ d1)
            obtain ⟨D2, rfl⟩ := Int.eq_ofNat_of_zero_le (by omega : 0 ≤ d2)
            have hA := hide (unhide hAll (by omega) (by omega))
            clear hBad hAll
            have hv : (16 * (D1 : Int) + (D2 : Int)) = ((UInt8.ofNat (16 * (D1 : Int).toNat + (D2 : Int).toNat)).toNat : Int) := by simp; omega
            have HVV := hide hv
            have HO := hide (unhide HI).1.1
            rw [val_length] at HO
            clear hv
            go_wp2_with fail
            refine (unhide M1 _).mono ?_
            rintro e w1 ⟨rfl, rfl⟩
            go_wp2_with fail
            refine (unhide M2 _).mono ?_
            rintro e w1 ⟨rfl, rfl⟩
            go_wp2_with (at_builtin; refine wpList_put _ rfl (.tmp 33) (.tmp 39) 24 rfl w.heap.size 5 i0 (.int .u8 0) 1 1 Try.underlying24 hi hz0 hz1 hz2 rfl (by decide) _ _ _ rfl ((unhide HO).alloc _) ⟨w1.heap.size, 0, none⟩ 1 1 [.int .u8 (16 * (D1 : Int) + (D2 : Int))] rfl rfl ?c1 ?c2 ?c3 ?c4 ?c5 ?_)
            case c1 => intro j u hj; match j, hj with | 0, hj => simp at hj; subst hj; simp [Addr.add]
            case c2 => intro u hu; simp at hu; subst hu; rfl
            case c3 => have h := unhide HP; unfold maxLen; omega
            case c4 => have h := unhide HP; omega
            case c5 => have := (unhide HI).1.2.size; simp; omega
            intro v' w2 hown' hg' _
            have HN := hide (OwnB.grow (news := [UInt8.ofNat (16 * (D1 : Int).toNat + (D2 : Int).toNat)]) (unhide HI).1 ((unhide HI).1.2.alloc (unhide HI).1.2.size _) (xs := [.int .u8 (16 * (D1 : Int) + (D2 : Int))]) (by rw [show (16 * (D1 : Int) + (D2 : Int)) = _ from unhide HVV]; rfl) (by rw [val_length]; exact hown') hg')
            obtain ⟨ao', cap', rfl⟩ := owns_shape hown'
            clear hown' hg'
            go_wp2
            go_roundw
            case rel =>
              have h := unhide HP
              have h' := unhide HP1
              refine ⟨k + 1, ao', cap', by omega, by congr 1; omega, rfl, hide ⟨?_, unhide hA⟩⟩
              rw [show val (ch s) (k + 1) = _ from unhide hVal]
              exact unhide HN
            case measure => simp [intOf]; omega
      · have hps : p = s.size := by omega
        have HE : Hid (R = (val (ch s) k, 0)) := by
          show R = _
          rw [unhide HR, fromR, if_pos ⟨hodd, fun j hj => (unhide HI).2 j (by omega)⟩, show s.size / 2 = k from by omega]
        have hrun := own_run (unhide HI).1 (by rw [val_length])
        clear hp hp1e
        go_wp2
        go_ret2
        exact ⟨by rw [unhide HE]; rfl, (unhide HI).1.2⟩
  · have hb0 : ((s.size : Int) % 2 != 0) = true := by rw [bne_iff_ne]; omega
    have HE : Hid (R = ([], 4)) := by
      show R = _
      rw [unhide HR, fromR, if_neg (fun h => hodd h.1)]
    go_enter Try.func33, Try.ntmps33
    go_wp2
    go_ret2
    exact ⟨by rw [unhide HE]; rfl, Below.refl _ _⟩
end Go.Proofs.Ytpbifpbblinopaa
