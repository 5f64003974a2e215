/- The document's reader: the number that digits are. -/
import Derived.Test.YtpjepndeppckdaaMRdN
namespace Go.Proofs.Ytpjepndeppckdaa
open Go.RowKit Go.Lib

theorem last_d (t : ByteArray) (j : Nat) (hj : t.size = j + 1) : t.data.toList.getLastD 0 = t[j]'(by omega) := by
  have hl := size_toList t
  rw [List.getLastD_eq_getLast?, List.getLast?_eq_getElem?]
  have e : t.data.toList.length - 1 = j := by omega
  rw [e, List.getElem?_eq_getElem (by omega)]
  rfl
theorem ret2 {A C : Int} {q : Nat × Int} {v : Nat} {e : Int} (h : q = (v, e)) (hA : A = v) (hC : C = e) :
    Ending.returned (.tuple #[.int .u64 A, .int .i64 C]) = .returned (.tuple #[.int .u64 q.1, .int .i64 q.2]) := by
  rw [h, hA, hC]
theorem numS_bad {D : List UInt8} {most : Nat} {x : Int} (h : fin D 0 0 = (0, 0, x)) (hx : x ≠ 0) : numS D most = (0, x) := by
  unfold numS
  rw [h, if_pos hx]
theorem numS0 (D : List UInt8) (most : Nat) (h : D = []) : numS D most = (0, 10) := by
  subst h
  exact numS_bad (by unfold fin; rw [if_pos ⟨by simp, .inl rfl⟩]) (by decide)
theorem numS1 (t : ByteArray) (most j : Nat) (hj : t.size = j + 1) (h10 : j < 9) (h : 128 ≤ (t[j]'(by omega)).toNat) : numS t.data.toList most = (0, 10) := by
  refine numS_bad ?_ (by decide)
  have hl := size_toList t
  unfold fin
  rw [last_d t j hj, if_pos ⟨by omega, .inr h⟩]
theorem fin_not (t : ByteArray) (j : Nat) (hj : t.size = j + 1) (h9 : 9 ≤ j ∨ (t[j]'(by omega)).toNat < 128) : ¬ (t.data.toList.length + 0 < 10 ∧ (t.data.toList = [] ∨ 128 ≤ (t[j]'(by omega)).toNat)) := by
  have hl := size_toList t
  rintro ⟨h1, h2 | h2⟩
  · rw [h2] at hl; simp at hl; omega
  · omega
theorem numS2 (t : ByteArray) (most j : Nat) (hj : t.size = j + 1) (h9 : 9 ≤ j ∨ (t[j]'(by omega)).toNat < 128) (h : j = 9 ∧ 1 < (t[j]'(by omega)).toNat ∨ 0 < j ∧ (t[j]'(by omega)).toNat = 0) : numS t.data.toList most = (0, 11) := by
  have hA := fin_not t j hj h9
  have hl := size_toList t
  refine numS_bad ?_ (by decide)
  unfold fin
  rw [last_d t j hj, if_neg hA, if_pos (by omega)]
theorem numS3 (t : ByteArray) (most j : Nat) (hj : t.size = j + 1) (h9 : 9 ≤ j ∨ (t[j]'(by omega)).toNat < 128) (h : ¬ (j = 9 ∧ 1 < (t[j]'(by omega)).toNat ∨ 0 < j ∧ (t[j]'(by omega)).toNat = 0)) : numS t.data.toList most = if most < low t.data.toList then (0, 11) else (low t.data.toList, 0) := by
  have hA := fin_not t j hj h9
  have hl := size_toList t
  have hf : fin t.data.toList 0 0 = (low t.data.toList, t.size, 0) := by
    unfold fin
    rw [last_d t j hj, if_neg hA, if_neg (by omega)]
    simp [hl]
  unfold numS
  rw [hf, if_neg (by simp)]
set_option maxRecDepth 100000 in
set_option maxHeartbeats 800000 in
theorem mNumber (t : ByteArray) (most : Nat) (w : World) (h10 : t.size ≤ 10) :
    Calls Try.prog 64 #[.string t, .int .u64 most] w fun y w' => y = .returned (.tuple #[.int .u64 (numS t.data.toList most).1, .int .i64 (numS t.data.toList most).2]) ∧ w' = w := by
  by_cases h0 : t.size = 0
  · have hr := numS0 t.data.toList most (List.eq_nil_of_length_eq_zero (by rw [size_toList]; exact h0))
    rw [hr]
    have hs : (t.size : Int) = 0 := by omega
    clear hr h10 h0
    go_enter Try.func64, Try.ntmps64
    go_wp2
    go_ret2
    exact ⟨rfl, rfl⟩
  · obtain ⟨j, hj⟩ : ∃ j, t.size = j + 1 := ⟨t.size - 1, by omega⟩
    have hjl : j < t.size := by omega
    by_cases hS : j < 9 ∧ 128 ≤ t[j].toNat
    · rw [numS1 t most j hj hS.1 hS.2]
      obtain ⟨hS1, hS2⟩ := hS
      have hs : (t.size : Int) = (j : Int) + 1 := by omega
      have hs1 : ((j : Int) + 1 < 10) := by omega
      have hs2 : ((j : Int) + 1 == 0) = false := by rw [beq_eq_false_iff_ne]; omega
      have hb : ¬ ((t[j].toNat : Int) < 128) := by omega
      go_enter Try.func64, Try.ntmps64
      go_wp2
      go_ret2
      exact ⟨rfl, rfl⟩
    · have h9 : 9 ≤ j ∨ t[j].toNat < 128 := by omega
      by_cases hL : j = 9 ∧ 1 < t[j].toNat ∨ 0 < j ∧ t[j].toNat = 0
      · rw [numS2 t most j hj h9 hL]
        by_cases hj9 : j = 9
        · subst hj9
          have hs : (t.size : Int) = 10 := by omega
          by_cases hb : 1 < t[9].toNat
          · have hb' : (1 : Int) < t[9].toNat := by omega
            clear h10 h0 hj hS h9 hL hb
            go_enter Try.func64, Try.ntmps64
            go_wp2
            go_ret2
            exact ⟨rfl, rfl⟩
          · have hb' : (t[9].toNat : Int) = 0 := by omega
            clear h10 h0 hj hS h9 hL hb
            go_enter Try.func64, Try.ntmps64
            go_wp2
            go_ret2
            exact ⟨rfl, rfl⟩
        · have hs : (t.size : Int) = (j : Int) + 1 := by omega
          have hs1 : ((j : Int) + 1 < 10) := by omega
          have hs2 : ((j : Int) + 1 == 0) = false := by rw [beq_eq_false_iff_ne]; omega
          have hs3 : ((j : Int) + 1 == 10) = false := by rw [beq_eq_false_iff_ne]; omega
          have hs4 : (1 : Int) < (j : Int) + 1 := by omega
          have hb : (t[j].toNat : Int) = 0 := by omega
          clear h10 h0 hj hS h9 hL hj9
          go_enter Try.func64, Try.ntmps64
          go_wp2
          go_ret2
          exact ⟨rfl, rfl⟩
      · rw [numS3 t most j hj h9 hL]
        have h91 : t.size = 10 → ∀ h : 9 < t.size, t[9].toNat ≤ 1 := by
          intro h h'
          have e : j = 9 := by omega
          subst e; omega
        have hroom := fun k => low_room t k h10 h91
        have HROOM := hide hroom
        clear hroom h91
        generalize hq : (if most < low t.data.toList then ((0 : Nat), (11 : Int)) else (low t.data.toList, 0)) = q
        have HQ := hide hq
        clear hq
        by_cases hj9 : j = 9
        · subst hj9
          have hs : (t.size : Int) = 10 := by omega
          have hb' : (t[9].toNat : Int) = 1 := by omega
          clear h10 h0 hj hS h9 hL
          go_enter Try.func64, Try.ntmps64
          go_wp2
          go_loop [7, 8] (fun v i => ∃ k : Nat, k ≤ t.size ∧ i = .int .i64 ((k : Int) - 1) ∧ v = .int .u64 (low (t.data.toList.drop k))) (fun _ i => (intOf i + 1).toNat)
          case atStart => exact ⟨t.size, Nat.le_refl _, by rw [hs]; first | done | rfl | (congr 1; omega), by rw [low_end t t.size (Nat.le_refl _)]; rfl⟩
          case round =>
            obtain ⟨k, hk, rfl, rfl⟩ := hrel
            cases k with
            | zero =>
              simp only [List.drop_zero]
              by_cases hm : most < low t.data.toList
              · have HZ := hide ((unhide HQ).symm.trans (if_pos hm))
                have hm' : (most : Int) < (low t.data.toList : Nat) := by omega
                generalize (low t.data.toList) = V at *
                go_wp2
                go_ret2
                exact ⟨ret2 (unhide HZ) rfl rfl, rfl⟩
              · have HZ := hide ((unhide HQ).symm.trans (if_neg hm))
                have hm' : ¬ ((most : Int) < (low t.data.toList : Nat)) := by omega
                generalize (low t.data.toList) = V at *
                go_wp2
                go_ret2
                exact ⟨ret2 (unhide HZ) rfl rfl, rfl⟩
            | succ m =>
              have hml : m < t.size := by omega
              have hst := low_step t m hml
              have hr := unhide HROOM m
              rw [hst] at hr
              have HST := hide hst
              clear hst
              have hmi : ((m + 1 : Nat) : Int) - 1 = (m : Int) := by omega
              rw [hmi]
              generalize low (t.data.toList.drop (m + 1)) = V at *
              go_wp2
              go_round
              case rel => exact ⟨m, by omega, by go_num, by rw [unhide HST]; go_num⟩
              case measure => simp [intOf]
        · have hs : (t.size : Int) = (j : Int) + 1 := by omega
          have hs1 : ((j : Int) + 1 < 10) := by omega
          have hs2 : ((j : Int) + 1 == 0) = false := by rw [beq_eq_false_iff_ne]; omega
          have hs3 : ((j : Int) + 1 == 10) = false := by rw [beq_eq_false_iff_ne]; omega
          have hb1 : (t[j].toNat : Int) < 128 := by omega
          by_cases hj0 : j = 0
          · subst hj0
            have hs4 : ¬ ((1 : Int) < ((0 : Nat) : Int) + 1) := by omega
            clear h10 h0 hj hS h9 hL hj9
            go_enter Try.func64, Try.ntmps64
            go_wp2
            go_loop [7, 8] (fun v i => ∃ k : Nat, k ≤ t.size ∧ i = .int .i64 ((k : Int) - 1) ∧ v = .int .u64 (low (t.data.toList.drop k))) (fun _ i => (intOf i + 1).toNat)
            case atStart => exact ⟨t.size, Nat.le_refl _, by rw [hs]; first | done | rfl | (congr 1; omega), by rw [low_end t t.size (Nat.le_refl _)]; rfl⟩
            case round =>
              obtain ⟨k, hk, rfl, rfl⟩ := hrel
              cases k with
              | zero =>
                simp only [List.drop_zero]
                by_cases hm : most < low t.data.toList
                · have HZ := hide ((unhide HQ).symm.trans (if_pos hm))
                  have hm' : (most : Int) < (low t.data.toList : Nat) := by omega
                  generalize (low t.data.toList) = V at *
                  go_wp2
                  go_ret2
                  exact ⟨ret2 (unhide HZ) rfl rfl, rfl⟩
                · have HZ := hide ((unhide HQ).symm.trans (if_neg hm))
                  have hm' : ¬ ((most : Int) < (low t.data.toList : Nat)) := by omega
                  generalize (low t.data.toList) = V at *
                  go_wp2
                  go_ret2
                  exact ⟨ret2 (unhide HZ) rfl rfl, rfl⟩
              | succ m =>
                have hml : m < t.size := by omega
                have hst := low_step t m hml
                have hr := unhide HROOM m
                rw [hst] at hr
                have HST := hide hst
                clear hst
                have hmi : ((m + 1 : Nat) : Int) - 1 = (m : Int) := by omega
                rw [hmi]
                generalize low (t.data.toList.drop (m + 1)) = V at *
                go_wp2
                go_round
                case rel => exact ⟨m, by omega, by go_num, by rw [unhide HST]; go_num⟩
                case measure => simp [intOf]
          · have hs4 : (1 : Int) < (j : Int) + 1 := by omega
            have hb : ((t[j].toNat : Int) == 0) = false := by rw [beq_eq_false_iff_ne]; omega
            clear h10 h0 hj hS h9 hL hj9 hj0
            go_enter Try.func64, Try.ntmps64
            go_wp2
            go_loop [7, 8] (fun v i => ∃ k : Nat, k ≤ t.size ∧ i = .int .i64 ((k : Int) - 1) ∧ v = .int .u64 (low (t.data.toList.drop k))) (fun _ i => (intOf i + 1).toNat)
            case atStart => exact ⟨t.size, Nat.le_refl _, by rw [hs]; first | done | rfl | (congr 1; omega), by rw [low_end t t.size (Nat.le_refl _)]; rfl⟩
            case round =>
              obtain ⟨k, hk, rfl, rfl⟩ := hrel
              cases k with
              | zero =>
                simp only [List.drop_zero]
                by_cases hm : most < low t.data.toList
                · have HZ := hide ((unhide HQ).symm.trans (if_pos hm))
                  have hm' : (most : Int) < (low t.data.toList : Nat) := by omega
                  generalize (low t.data.toList) = V at *
                  go_wp2
                  go_ret2
                  exact ⟨ret2 (unhide HZ) rfl rfl, rfl⟩
                · have HZ := hide ((unhide HQ).symm.trans (if_neg hm))
                  have hm' : ¬ ((most : Int) < (low t.data.toList : Nat)) := by omega
                  generalize (low t.data.toList) = V at *
                  go_wp2
                  go_ret2
                  exact ⟨ret2 (unhide HZ) rfl rfl, rfl⟩
              | succ m =>
                have hml : m < t.size := by omega
                have hst := low_step t m hml
                have hr := unhide HROOM m
                rw [hst] at hr
                have HST := hide hst
                clear hst
                have hmi : ((m + 1 : Nat) : Int) - 1 = (m : Int) := by omega
                rw [hmi]
                generalize low (t.data.toList.drop (m + 1)) = V at *
                go_wp2
                go_round
                case rel => exact ⟨m, by omega, by go_num, by rw [unhide HST]; go_num⟩
                case measure => simp [intOf]
end Go.Proofs.Ytpjepndeppckdaa
