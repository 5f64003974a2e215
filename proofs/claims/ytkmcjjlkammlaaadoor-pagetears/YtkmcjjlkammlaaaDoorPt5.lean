/- A front of a page over another one is known by its two ends. -/
import Derived.Test.YtkmcjjlkammlaaaDoorPv5
import Derived.Test.YtkmcjjlkammlaaaDoorPu
namespace Go.Proofs.YtkmcjjlkammlaaaDoor
open Go.RowKit Go.Lib

theorem numB_inj : ∀ (n : Nat) (a b : List UInt8), a.length = n → b.length = n → numB a = numB b → a = b
  | 0, a, b, ha, hb, _ => by rw [List.length_eq_zero_iff.1 ha, List.length_eq_zero_iff.1 hb]
  | n + 1, a, b, ha, hb, h => by
    rcases List.eq_nil_or_concat a with rfl | ⟨a', x, rfl⟩
    · simp at ha
    · rcases List.eq_nil_or_concat b with rfl | ⟨b', y, rfl⟩
      · simp at hb
      · simp only [List.concat_eq_append] at ha hb h ⊢
        rw [numB_snoc, numB_snoc] at h
        have hx := x.toNat_lt
        have hy := y.toNat_lt
        have h1 : numB a' = numB b' := by omega
        have h2 : x = y := UInt8.toNat.inj (by omega)
        rw [numB_inj n a' b' (by simpa using ha) (by simpa using hb) h1, h2]
section
variable (p q : Pg)
theorem Pg.front8 (hs : p.body.size ≤ 996) : p.enc.take 8 = fixB p.ser 8 ∧ p.enc.drop 1016 = fixB p.ser 8 := by
  have l8 := fixB_length p.ser 8
  refine ⟨?_, ?_⟩
  · rw [p.enc_eq, List.take_append_of_le_length (by omega), List.take_of_length_le (by omega)]
  · have hl : (p.fr ++ fixB p.sum 4 ++ p.body.data.toList ++ zeros (996 - p.body.size)).length = 1016 := by
      simp only [List.length_append, Pg.fr_len, fixB_length, zeros, List.length_replicate, size_toList]
      omega
    rw [Pg.enc, Pg.bytes, List.drop_append, hl, List.drop_of_length_le (by omega)]
    simp
theorem tears (hp : p.body.size ≤ 996) (hq : q.body.size ≤ 996) (fp : p.ser < 18446744073709551616) (fq : q.ser < 18446744073709551616) (hne : p.ser ≠ q.ser) (c : Nat) (hc : c ≤ 1024) :
    (hd8 (p.enc.take c ++ q.enc.drop c) = tl8 (p.enc.take c ++ q.enc.drop c)) ↔ (p.enc.take c ++ q.enc.drop c = p.enc ∨ p.enc.take c ++ q.enc.drop c = q.enc) := by
  obtain ⟨a8, at8⟩ := p.front8 hp
  obtain ⟨b8, bt8⟩ := q.front8 hq
  have la : p.enc.length = 1024 := p.bytes_len hp _
  have lb : q.enc.length = 1024 := q.bytes_len hq _
  have hS : fixB p.ser 8 ≠ fixB q.ser 8 := fun h => hne ((fixB_inj p.ser q.ser 8 fp fq).1 h)
  have lp := fixB_length p.ser 8
  have lq := fixB_length q.ser 8
  generalize p.enc = a at *
  generalize q.enc = b at *
  generalize fixB p.ser 8 = Sp at *
  generalize fixB q.ser 8 = Sq at *
  have lt : (a.take c ++ b.drop c).length = 1024 := by simp [la, lb]; omega
  have hiff : (hd8 (a.take c ++ b.drop c) = tl8 (a.take c ++ b.drop c)) ↔ (a.take c ++ b.drop c).take 8 = (a.take c ++ b.drop c).drop 1016 :=
    ⟨fun h => numB_inj 8 _ _ (by rw [List.length_take]; omega) (by rw [List.length_drop]; omega) h, fun h => by rw [hd8, tl8, h]⟩
  rw [hiff]
  have lac : (a.take c).length = c := by rw [List.length_take]; omega
  have e8 : (a.take c ++ b.drop c).take 8 = Sp.take c ++ Sq.drop c := by
    rw [List.take_append, lac, ← a8, ← b8, List.take_take, List.take_take, Nat.min_comm, List.drop_take]
  have eT : (a.take c ++ b.drop c).drop 1016 = Sp.take (c - 1016) ++ Sq.drop (c - 1016) := by
    rw [List.drop_append, lac, ← at8, ← bt8, List.drop_take, List.drop_drop, List.drop_drop]
    by_cases h : 1016 ≤ c
    · rw [show 1016 - c = 0 from by omega, show 1016 + (c - 1016) = c from by omega, Nat.add_zero]
    · rw [show c - 1016 = 0 from by omega, show c + (1016 - c) = 1016 from by omega]
  rw [e8, eT]
  have hta : a.take c ++ b.drop c = a → Sp.take c ++ Sq.drop c = Sp ∧ Sp.take (c - 1016) ++ Sq.drop (c - 1016) = Sp := fun h => by rw [← e8, ← eT, h]; exact ⟨a8, at8⟩
  have htb : a.take c ++ b.drop c = b → Sp.take c ++ Sq.drop c = Sq ∧ Sp.take (c - 1016) ++ Sq.drop (c - 1016) = Sq := fun h => by rw [← e8, ← eT, h]; exact ⟨b8, bt8⟩
  constructor
  · intro h
    by_cases h1 : c ≤ 8
    · rw [show c - 1016 = 0 from by omega] at h
      simp only [List.take_zero, List.drop_zero, List.nil_append] at h
      right
      have h2 : Sp.take c = Sq.take c := by
        have h3 : Sp.take c ++ Sq.drop c = Sq.take c ++ Sq.drop c := by rw [h, List.take_append_drop]
        exact List.append_cancel_right h3
      rw [← a8, ← b8, List.take_take, List.take_take, Nat.min_eq_left h1] at h2
      rw [h2, List.take_append_drop]
    · by_cases h2 : c ≤ 1016
      · exfalso
        rw [show c - 1016 = 0 from by omega, List.take_of_length_le (by omega), List.drop_of_length_le (by omega)] at h
        simp only [List.take_zero, List.drop_zero, List.nil_append, List.append_nil] at h
        exact hS h
      · left
        rw [List.take_of_length_le (by omega), List.drop_of_length_le (by omega), List.append_nil] at h
        have h3 : Sp.drop (c - 1016) = Sq.drop (c - 1016) := by
          have h4 : Sp.take (c - 1016) ++ Sp.drop (c - 1016) = Sp.take (c - 1016) ++ Sq.drop (c - 1016) := by rw [List.take_append_drop]; exact h
          exact List.append_cancel_left h4
        rw [← at8, ← bt8, List.drop_drop, List.drop_drop, show 1016 + (c - 1016) = c from by omega] at h3
        rw [← h3, List.take_append_drop]
  · rintro (h | h)
    · obtain ⟨h1, h2⟩ := hta h
      rw [h1, h2]
    · obtain ⟨h1, h2⟩ := htb h
      rw [h1, h2]
end
end Go.Proofs.YtkmcjjlkammlaaaDoor
